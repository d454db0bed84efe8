/-
  CoverBranch: the program's.
  CoverBranch: the program's function.
-/
import Derived.Test.YtlnegaenjcekcaaBra
import Derived.Test.YtlnegaenjcekcaaIterX
import Derived.Test.YtlnegaenjcekcaaVtx
import Derived.Test.YtlnegaenjcekcaaOpw
namespace Go.Proofs.Ytlnegaenjcekcaa
open Go.RowKit
set_option linter.unusedVariables false
attribute [local go_sem] Oper.semAt_some

set_option maxRecDepth 20000 in
set_option maxHeartbeats 6400000 in
theorem branch_any (w : World) (b : Nat) (t f : List Int) (k : Nat) (vss : List (List Int)) (hv : Volt t f k vss) (h : VAt w b t f k vss) :
    Calls Try.prog 58 #[.pointer (some ⟨b, 0, none⟩)] w fun e w' => e = .returned (.int .i64 (brN f k vss (cyclesL (mulL f t)) (cyclesL (mulL f t)).length)) ∧ Below w.heap.size w w' := by
  obtain ⟨n, hn⟩ : ∃ n, f.length = n := ⟨_, rfl⟩
  obtain ⟨A, c, A', c', lo, g, cg, hvb, hr1, hr2, hal⟩ := (show ∃ (A : Option Addr) (c : Nat) (A' : Option Addr) (c' lo g cg : Nat), VBox w b A n c A' n c' k g cg ∧ Rd w A n t ∧ Rd w A' n f ∧ Alg w lo g n cg (fun j => some (dV f vss j)) by subst hn; exact h)
  have HQ : Hid (Vld (mulL f t)) := hv.map.flip.mulL hv.map.turn hv.map.len.symm
  have HQL : Hid ((mulL f t).length = n) := by rw [Hid, mulL_len]; exact hn
  have hbl := hvb.lt
  have HVO := Lib.hid hv; have HVA := Lib.hid h; have HVB := Lib.hid hvb; have H := Lib.hid hr1; have H' := Lib.hid hr2
  clear hv h hvb hr1 hr2 hal
  refine (callsIn_wide (n := 5)).1 ?_
  refine callsIn_of_wp_marks Try.func58 rfl trivial ?_
  simp only [Try.ntmps58, List.size_toArray, List.length_cons, List.length_nil, Nat.reduceAdd, Nat.reduceSub, Array.replicate_succ, Array.replicate_zero, List.push_toArray, List.append_toArray, List.nil_append, List.cons_append]
  have HBA : Hid (Below w.heap.size w ((w.alloc (.cells #[.pointer (some ⟨b, 0, none⟩)] 67)).alloc (.cells #[.int .i64 0] 3))) := ((Below.refl _ w).alloc (Nat.le_refl _) _).alloc (by simp) _
  gi_wp2_with fail
  refine ⟨trivial, ?_⟩
  refine (callsIn_wide.2 (faces_at b A A' n c c' t f _ (HVB.out.below HBA.out).at_ (H.out.below HBA.out) (H'.out.below HBA.out) HVO.out.map.flip)).mono ?_
  rintro e w1 ⟨v, rfl, o, bl⟩
  obtain ⟨Aq, cq, rfl, -, -⟩ := o.form' HQL.out
  have HRQ := Lib.hid (o.rd HQL.out)
  have HOQ : Hid (∀ ad : Addr, Aq = some ad → w.heap.size + 2 ≤ ad.block) := fun ad e => by have := (o.lt ad.block (by rw [e]; rfl)).1; simpa using this
  have HBB := Lib.hid bl
  have hbx1 : w1.heap[w.heap.size]? = some (.cells #[.pointer (some ⟨b, 0, none⟩)] 67 (0, 0)) := (bl.block _ (by simp; omega)).trans (box_alloc (heap_alloc_new w _))
  have hbx2 : w1.heap[w.heap.size + 1]? = some (.cells #[.int .i64 0] 3 (0, 0)) := (bl.block _ (by simp)).trans (by
    have := heap_alloc_new (w.alloc (.cells #[.pointer (some ⟨b, 0, none⟩)] 67)) (.cells #[.int .i64 0] 3)
    rw [World.size_alloc] at this; exact this)
  have hs1 : w.heap.size + 2 ≤ w1.heap.size := by have := bl.size; simp at this; omega
  have HB1 := Lib.hid (HBA.out.trans (bl.mono HBA.out.size))
  have HX1 := Lib.hid hbx1; have HX2 := Lib.hid hbx2
  clear o bl hbx1 hbx2
  gi_wp2_with fail
  refine ⟨trivial, ?_⟩
  refine (callsIn_wide.2 (cycles_any Aq n cq _)).mono ?_
  rintro e w2 ⟨rfl, rfl⟩
  gi_wp2_with fail
  obtain ⟨W0, hW0⟩ : ∃ W0, w1.alloc (.cells #[.slice Aq n cq] 72) = W0 := ⟨_, rfl⟩
  rw [hW0]
  have hba : Below w1.heap.size w1 W0 := by rw [← hW0]; exact (Below.refl _ _).alloc (Nat.le_refl _) _
  have HPM : Hid (W0.heap[w1.heap.size]? = some (.cells #[.slice Aq n cq] 72 (0, 0))) := by rw [← hW0]; exact heap_alloc_new w1 _
  have HA0 := Lib.hid hba
  have HR0 := Lib.hid (HRQ.out.below hba)
  have hws : w1.heap.size ≤ W0.heap.size := hba.size
  have HAQ : Hid (∀ ad : Addr, Aq = some ad → 0 < n → ad.block < w1.heap.size ∧ ad.block ≠ w.heap.size + 1) := fun ad e hp => ⟨HRQ.out.lt ad e hp, fun e2 => by have := HOQ.out ad e; omega⟩
  have HSP := Lib.hid (cyclesL_spec HQ.out)
  have HY1 : Hid (W0.heap[w.heap.size]? = some (.cells #[.pointer (some ⟨b, 0, none⟩)] 67 (0, 0))) := (hba.block _ (by omega)).trans HX1.out
  have HY2 : Hid (W0.heap[w.heap.size + 1]? = some (.cells #[.int .i64 0] 3 (0, 0))) := (hba.block _ (by omega)).trans HX2.out
  clear hW0 hba
  refine range_cyclesX (F := Fence.wide) (n := 5) (Bn := w1.heap.size) (n₀ := w1.heap.size) (q := w.heap.size + 1) (xs := cyclesL (mulL f t)) rfl (by omega) rfl trivial (enters_of Try.func87 (by kernel_rfl) rfl)
    (cycles1_inX (F := Fence.wide) (n := 4) trivial rfl (by omega) w1.heap.size w1.heap.size (w.heap.size + 1) W0.heap.size Aq n cq (mulL f t) W0 HPM.out HR0.out HAQ.out HQ.out hws (Nat.le_refl _)) hws
    (fun _ pre W => W.heap[w.heap.size]? = some (.cells #[.pointer (some ⟨b, 0, none⟩)] 67 (0, 0)) ∧ W.heap[w.heap.size + 1]? = some (.cells #[.int .i64 (brN f k vss (cyclesL (mulL f t)) pre.length)] 3 (0, 0)) ∧ BelowX w1.heap.size (w.heap.size + 1) W0 W)
    (fun _ _ _ _ h _ => h)
    (fun _ pre A B ⟨h1, h2, h3⟩ hz hgo => ⟨hgo.box h1 (by decide), hgo.box h2 (by decide), h3.trans (.of ((hgo.below hz).mono hws))⟩)
    (fun _ pre W l o o' ⟨h1, h2, h3⟩ hl hlo ho => ⟨put_box h1 hlo ho, put_box h2 hlo ho, h3.trans (.of (put_below o' (by omega) (by have := h3.size; omega)))⟩)
    ⟨HY1.out, HY2.out, BelowX.refl _ _ _⟩
    (fun v => { tmps := #[.pointer (some ⟨b, 0, none⟩), .pointer (some ⟨w.heap.size, 0, none⟩), .int .i64 0, .pointer (some ⟨w.heap.size + 1, 0, none⟩), v, .pointer (some ⟨b, 0, none⟩), .pointer (some ⟨b, 0, none⟩), .pointer (some ⟨b, 0, none⟩), .slice Aq n cq, .func (.func 87) #[] #[.pointer (some ⟨w1.heap.size, 0, none⟩)], v, undef, undef, undef, undef, undef, undef, undef, undef, undef, undef, undef, undef], defers := [] }) ?assign ?body ?done
  case assign =>
    intro l v W K hK
    gi_wp2
    exact hK
  case body =>
    rintro l B pre x u W ⟨h1, h2, h3⟩ hzB hBW hu hpre
    obtain ⟨hxm, hdis⟩ := prefix_last hpre HSP.out.2.2
    have hsh := cyclesL_short hxm
    have hin := face_in HVO.out hxm
    obtain ⟨i, hi⟩ : ∃ i, pre.length = i := ⟨_, rfl⟩
    have hget : (cyclesL (mulL f t)).getD i [] = x := by
      obtain ⟨r, hr⟩ := hpre
      rw [← hr, ← hi, List.getD_eq_getElem?_getD]
      simp
    have hile : i < (cyclesL (mulL f t)).length := by
      have := hpre.length_le
      rw [List.length_append, hi] at this
      have h1 : ([x] : List (List Int)).length = 1 := rfl
      omega
    rw [hi] at h2
    obtain ⟨z, hz⟩ : ∃ z, brN f k vss (cyclesL (mulL f t)) i = z := ⟨_, rfl⟩
    rw [hz] at h2
    obtain ⟨lx, hlx⟩ : ∃ lx, x.length = lx := ⟨_, rfl⟩
    obtain ⟨Au, cu, rfl, hrd, -⟩ := hu.form' hlx
    have hcb1 := cell_of_block h1
    have hcb2 := cell_of_block h2
    have hfb2 : W.frozen? ⟨w.heap.size + 1, 0, none⟩ = false := frozen_of_row W _ 0 _ _ h2
    have HBW : Hid (Below w.heap.size w W) := HB1.out.trans ((HA0.out.mono (by omega)).trans (h3.low (by omega) (by omega)))
    have HVW := Lib.hid (HVA.out.below HBW.out)
    have c2 := (HVB.out.below HBW.out).cell2
    have hwv := wndL_vld HVO.out hin
    obtain ⟨p, hp⟩ : ∃ p, wndL f k vss x = p := ⟨_, rfl⟩
    rw [hp] at hwv
    obtain ⟨C, hC⟩ : ∃ C, (cyclesL p).length = C := ⟨_, rfl⟩
    have hk6 := HVO.out.six
    have hC6 : C ≤ 6 := by have := cyclesL_len (p := p); rw [hC, hwv.2] at this; omega
    have hbd := brN_le HVO.out i (by omega)
    rw [hz] at hbd
    have hi12 : i ≤ 12 := by have := cyclesL_len (p := mulL f t); rw [HQL.out] at this; have := HVO.out.map.flip.2.1; omega
    obtain ⟨y1, hy1⟩ : ∃ y1, (k : Int) - (C : Int) = y1 := ⟨_, rfl⟩
    obtain ⟨y2, hy2⟩ : ∃ y2, z + y1 = y2 := ⟨_, rfl⟩
    have HZ2 : Hid (brN f k vss (cyclesL (mulL f t)) (i + 1) = y2) := by rw [Hid, brN, hz, hget, hp, hC]; omega
    have g1 : IntKind.i64.wrap y1 = y1 := IntWalk.i64_in _ (by omega)
    have g1' : IntKind.i64.wrap ((k : Int) - (C : Int)) = y1 := by rw [hy1]; exact g1
    have g2 : IntKind.i64.wrap y2 = y2 := IntWalk.i64_in _ (by omega)
    have g2' : IntKind.i64.wrap (z + y1) = y2 := by rw [hy2]; exact g2
    have hlx13 : lx ≤ 1048576 := by omega
    have HPOST : Hid (∀ w6, Below W.heap.size W w6 → KeepX w1.heap.size (w.heap.size + 1) W (w6.setCell ⟨w.heap.size + 1, 0, none⟩ (.int .i64 y2)) ∧ ((w6.setCell ⟨w.heap.size + 1, 0, none⟩ (.int .i64 y2)).heap[w.heap.size]? = some (.cells #[.pointer (some ⟨b, 0, none⟩)] 67 (0, 0)) ∧ (w6.setCell ⟨w.heap.size + 1, 0, none⟩ (.int .i64 y2)).heap[w.heap.size + 1]? = some (.cells #[.int .i64 (brN f k vss (cyclesL (mulL f t)) (pre ++ [x]).length)] 3 (0, 0)) ∧ BelowX w1.heap.size (w.heap.size + 1) W0 (w6.setCell ⟨w.heap.size + 1, 0, none⟩ (.int .i64 y2)))) := fun w6 hb6 => by
      have h1' := (hb6.block _ (Array.getElem?_eq_some_iff.1 h1).1).trans h1
      have h2' := (hb6.block _ (Array.getElem?_eq_some_iff.1 h2).1).trans h2
      have hs6 := hb6.size
      have hs3 := h3.size
      have hk : KeepX w1.heap.size (w.heap.size + 1) W (w6.setCell ⟨w.heap.size + 1, 0, none⟩ (.int .i64 y2)) := (KeepX.of_below hb6 (by omega)).trans (KeepX.set h2' (.inr rfl) (by omega) (by decide) (by decide) 0)
      refine ⟨hk, ((grown_set w6 (w.heap.size + 1) 0 (.int .i64 y2)).block _ (Array.getElem?_eq_some_iff.1 h1').1 (by intro e; injection e with e; omega)).trans h1', ?_, h3.trans hk.below⟩
      rw [List.length_append, hi, show ([x] : List (List Int)).length = 1 from rfl, HZ2.out]
      exact set_box h2'
    have HRX := Lib.hid hrd; have HP := Lib.hid hp; have HPV := Lib.hid hwv; have HCC := Lib.hid hC; have HIN := Lib.hid hin; have HZ := Lib.hid hz
    have HH1 := Lib.hid h1; have HH2 := Lib.hid h2; have HH3 := Lib.hid h3; have HI := Lib.hid hi
    clear hp hwv hC hbd hget hile hz hxm hdis hsh hin hrd h1 h2 h3 hpre hlx hi hu
    gi_wp2_with fail
    obtain ⟨Inv, hInv⟩ : ∃ Inv : Array Bool → Act → World → Prop, Inv = fun listed a' w' => ∃ y11 y12 y13 y14 y15 y16 y17 y18 y19 y20 y21 : Value, a' = { tmps := #[.pointer (some ⟨b, 0, none⟩), .pointer (some ⟨w.heap.size, 0, none⟩), .int .i64 0, .pointer (some ⟨w.heap.size + 1, 0, none⟩), .slice Au lx cu, .pointer (some ⟨b, 0, none⟩), .pointer (some ⟨b, 0, none⟩), .pointer (some ⟨b, 0, none⟩), .slice Aq n cq, .func (.func 87) #[] #[.pointer (some ⟨w1.heap.size, 0, none⟩)], .slice Au lx cu, y11, y12, y13, y14, y15, y16, y17, y18, y19, y20, y21, undef], defers := [] } ∧
        (listed.getD 0 false = true → y11 = .int .i64 z) ∧ (listed.getD 1 false = true → y12 = .pointer (some ⟨b, 0, none⟩)) ∧ (listed.getD 2 false = true → y13 = .pointer (some ⟨b, 0, none⟩)) ∧ (listed.getD 3 false = true → y14 = .pointer (some ⟨b, 2, none⟩)) ∧
        (listed.getD 4 false = true → y15 = .int .i64 (k : Int)) ∧ (listed.getD 5 false = true → y16 = .pointer (some ⟨b, 0, none⟩)) ∧ (listed.getD 6 false = true → y17 = .slice Au lx cu) ∧ (listed.getD 7 false = true → listed.getD 11 false = false → ∃ A c, y18 = .slice A k c ∧ Rd w' A k p) ∧
        (listed.getD 8 false = true → y19 = .int .i64 (C : Int)) ∧ (listed.getD 9 false = true → y20 = .int .i64 y1) ∧ (listed.getD 10 false = true → y21 = .int .i64 y2) ∧
        (listed.getD 11 false = false → Below W.heap.size W w') ∧ (listed.getD 11 false = true → ∃ w6, Below W.heap.size W w6 ∧ w' = w6.setCell ⟨w.heap.size + 1, 0, none⟩ (.int .i64 y2)) := ⟨_, rfl⟩
    have HInv := Lib.hid hInv; clear hInv
    refine round_inv (by kernel_rfl) (by kernel_rfl) (by kernel_rfl) Inv ?h0 ?hstep ?hend
    case h0 =>
      rw [HInv.out]
      refine ⟨undef, undef, undef, undef, undef, undef, undef, undef, undef, undef, undef, rfl, ?_, ?_, ?_, ?_, ?_, ?_, ?_, ?_, ?_, ?_, ?_, ?_, ?_⟩
      iterate 7 (intro h; rw [getD_replicate_false] at h; cases h)
      · intro h; rw [getD_replicate_false] at h; cases h
      iterate 3 (intro h; rw [getD_replicate_false] at h; cases h)
      · intro _; exact below_drewN (Below.refl _ _) 1
      · intro h; rw [getD_replicate_false] at h; cases h
    case hstep =>
      rintro i o listed a' w' ho hi hsz hc hun hdep hinv
      rw [HInv.out] at hinv
      obtain ⟨y11, y12, y13, y14, y15, y16, y17, y18, y19, y20, y21, rfl, h0, h1, h2, h3, h4, h5, h6, h7, h8, h9, h10, h11, h12⟩ := hinv
      have hi' : i < 12 := hi
      have hnl : i ≠ 11 → listed.getD 11 false = false := fun hne => by
        cases hb : listed.getD 11 false with
        | false => rfl
        | true =>
          have := hc.all (k := 11) (by decide +kernel) hb (11 - i) i rfl (by omega)
          rw [hun] at this; cases this
      have hno : i ≠ 11 → (listed.setIfInBounds i true).getD 11 false = true → False := fun hne h => by rw [listed_other hne, hnl hne] at h; cases h
      have kp : ∀ j, i ≠ j → (listed.setIfInBounds i true).getD j false = true → listed.getD j false = true := fun j hne h => by rwa [listed_other hne] at h
      rcases (by omega : i = 0 ∨ i = 1 ∨ i = 2 ∨ i = 3 ∨ i = 4 ∨ i = 5 ∨ i = 6 ∨ i = 7 ∨ i = 8 ∨ i = 9 ∨ i = 10 ∨ i = 11) with rfl | rfl | rfl | rfl | rfl | rfl | rfl | rfl | rfl | rfl | rfl | rfl
      · cases ho
        have hb := h11 (hnl (by decide))
        have e0 := cell_of_block ((hb.block _ (Array.getElem?_eq_some_iff.1 HH2.out).1).trans HH2.out)
        unfold wpOp
        go_simp
        refine .inl ?_
        rw [HInv.out]
        exact ⟨_, _, _, _, _, _, _, _, _, _, _, rfl, fun _ => rfl, fun h => h1 (kp 1 (by decide) h), fun h => h2 (kp 2 (by decide) h), fun h => h3 (kp 3 (by decide) h), fun h => h4 (kp 4 (by decide) h), fun h => h5 (kp 5 (by decide) h), fun h => h6 (kp 6 (by decide) h), fun h _ => h7 (kp 7 (by decide) h) (hnl (by decide)), fun h => h8 (kp 8 (by decide) h), fun h => h9 (kp 9 (by decide) h), fun h => h10 (kp 10 (by decide) h), fun _ => hb, fun h => (hno (by decide) h).elim⟩
      · cases ho
        have hb := h11 (hnl (by decide))
        have e0 := cell_of_block ((hb.block _ (Array.getElem?_eq_some_iff.1 HH1.out).1).trans HH1.out)
        unfold wpOp
        go_simp
        refine .inl ?_
        rw [HInv.out]
        exact ⟨_, _, _, _, _, _, _, _, _, _, _, rfl, fun h => h0 (kp 0 (by decide) h), fun _ => rfl, fun h => h2 (kp 2 (by decide) h), fun h => h3 (kp 3 (by decide) h), fun h => h4 (kp 4 (by decide) h), fun h => h5 (kp 5 (by decide) h), fun h => h6 (kp 6 (by decide) h), fun h _ => h7 (kp 7 (by decide) h) (hnl (by decide)), fun h => h8 (kp 8 (by decide) h), fun h => h9 (kp 9 (by decide) h), fun h => h10 (kp 10 (by decide) h), fun _ => hb, fun h => (hno (by decide) h).elim⟩
      · cases ho
        have hb := h11 (hnl (by decide))
        have d1 : listed.getD 1 false = true := hdep { on := 1, ground := .data } (by simp) rfl
        obtain rfl := h1 d1
        unfold wpOp
        go_simp
        refine .inl ?_
        rw [HInv.out]
        exact ⟨_, _, _, _, _, _, _, _, _, _, _, rfl, fun h => h0 (kp 0 (by decide) h), fun h => h1 (kp 1 (by decide) h), fun _ => rfl, fun h => h3 (kp 3 (by decide) h), fun h => h4 (kp 4 (by decide) h), fun h => h5 (kp 5 (by decide) h), fun h => h6 (kp 6 (by decide) h), fun h _ => h7 (kp 7 (by decide) h) (hnl (by decide)), fun h => h8 (kp 8 (by decide) h), fun h => h9 (kp 9 (by decide) h), fun h => h10 (kp 10 (by decide) h), fun _ => hb, fun h => (hno (by decide) h).elim⟩
      · cases ho
        have hb := h11 (hnl (by decide))
        have d2 : listed.getD 2 false = true := hdep { on := 2, ground := .data } (by simp) rfl
        obtain rfl := h2 d2
        unfold wpOp
        go_simp
        refine .inl ?_
        rw [HInv.out]
        exact ⟨_, _, _, _, _, _, _, _, _, _, _, rfl, fun h => h0 (kp 0 (by decide) h), fun h => h1 (kp 1 (by decide) h), fun h => h2 (kp 2 (by decide) h), fun _ => rfl, fun h => h4 (kp 4 (by decide) h), fun h => h5 (kp 5 (by decide) h), fun h => h6 (kp 6 (by decide) h), fun h _ => h7 (kp 7 (by decide) h) (hnl (by decide)), fun h => h8 (kp 8 (by decide) h), fun h => h9 (kp 9 (by decide) h), fun h => h10 (kp 10 (by decide) h), fun _ => hb, fun h => (hno (by decide) h).elim⟩
      · cases ho
        have hb := h11 (hnl (by decide))
        have d3 : listed.getD 3 false = true := hdep { on := 3, ground := .data } (by simp) rfl
        obtain rfl := h3 d3
        have e0 := (HVB.out.below (HBW.out.trans (hb.mono HBW.out.size))).cell2
        unfold wpOp
        go_simp
        refine .inl ?_
        rw [HInv.out]
        exact ⟨_, _, _, _, _, _, _, _, _, _, _, rfl, fun h => h0 (kp 0 (by decide) h), fun h => h1 (kp 1 (by decide) h), fun h => h2 (kp 2 (by decide) h), fun h => h3 (kp 3 (by decide) h), fun _ => rfl, fun h => h5 (kp 5 (by decide) h), fun h => h6 (kp 6 (by decide) h), fun h _ => h7 (kp 7 (by decide) h) (hnl (by decide)), fun h => h8 (kp 8 (by decide) h), fun h => h9 (kp 9 (by decide) h), fun h => h10 (kp 10 (by decide) h), fun _ => hb, fun h => (hno (by decide) h).elim⟩
      · cases ho
        have hb := h11 (hnl (by decide))
        have e0 := cell_of_block ((hb.block _ (Array.getElem?_eq_some_iff.1 HH1.out).1).trans HH1.out)
        unfold wpOp
        go_simp
        refine .inl ?_
        rw [HInv.out]
        exact ⟨_, _, _, _, _, _, _, _, _, _, _, rfl, fun h => h0 (kp 0 (by decide) h), fun h => h1 (kp 1 (by decide) h), fun h => h2 (kp 2 (by decide) h), fun h => h3 (kp 3 (by decide) h), fun h => h4 (kp 4 (by decide) h), fun _ => rfl, fun h => h6 (kp 6 (by decide) h), fun h _ => h7 (kp 7 (by decide) h) (hnl (by decide)), fun h => h8 (kp 8 (by decide) h), fun h => h9 (kp 9 (by decide) h), fun h => h10 (kp 10 (by decide) h), fun _ => hb, fun h => (hno (by decide) h).elim⟩
      · cases ho
        have hb := h11 (hnl (by decide))
        unfold wpOp
        go_simp
        refine .inl ?_
        rw [HInv.out]
        exact ⟨_, _, _, _, _, _, _, _, _, _, _, rfl, fun h => h0 (kp 0 (by decide) h), fun h => h1 (kp 1 (by decide) h), fun h => h2 (kp 2 (by decide) h), fun h => h3 (kp 3 (by decide) h), fun h => h4 (kp 4 (by decide) h), fun h => h5 (kp 5 (by decide) h), fun _ => rfl, fun h _ => h7 (kp 7 (by decide) h) (hnl (by decide)), fun h => h8 (kp 8 (by decide) h), fun h => h9 (kp 9 (by decide) h), fun h => h10 (kp 10 (by decide) h), fun _ => hb, fun h => (hno (by decide) h).elim⟩
      · cases ho
        have hb := h11 (hnl (by decide))
        have d5 : listed.getD 5 false = true := hdep { on := 5, ground := .data } (by simp) rfl
        have d6 : listed.getD 6 false = true := hdep { on := 6, ground := .data } (by simp) rfl
        obtain rfl := h5 d5
        obtain rfl := h6 d6
        unfold wpOp
        go_simp
        refine .inl ?_
        refine (winding_any _ b t f k vss HVO.out (HVW.out.below hb) Au lx cu x (HRX.out.below hb) hlx13 HIN.out).mono ?_
        rintro e w5 ⟨v, rfl, o, bl⟩
        rw [HP.out] at o
        obtain ⟨Av, cv, rfl, -, -⟩ := o.form' HPV.out.2
        have hrv := o.rd HPV.out.2
        have hb5 : Below W.heap.size W w5 := hb.trans (bl.mono hb.size)
        go_simp
        rw [HInv.out]
        exact ⟨_, _, _, _, _, _, _, _, _, _, _, rfl, fun h => h0 (kp 0 (by decide) h), fun h => h1 (kp 1 (by decide) h), fun h => h2 (kp 2 (by decide) h), fun h => h3 (kp 3 (by decide) h), fun h => h4 (kp 4 (by decide) h), fun h => h5 (kp 5 (by decide) h), fun h => h6 (kp 6 (by decide) h), fun _ _ => ⟨Av, cv, rfl, hrv⟩, fun h => h8 (kp 8 (by decide) h), fun h => h9 (kp 9 (by decide) h), fun h => h10 (kp 10 (by decide) h), fun _ => hb5, fun h => (hno (by decide) h).elim⟩
      · cases ho
        have hb := h11 (hnl (by decide))
        have d7 : listed.getD 7 false = true := hdep { on := 7, ground := .data } (by simp) rfl
        obtain ⟨Av, cv, rfl, hrv⟩ := h7 d7 (hnl (by decide))
        unfold wpOp
        go_simp
        refine .inl ?_
        refine (count_any _ Av cv k p hrv HPV.out.1).mono ?_
        rintro e w5 ⟨rfl, bl⟩
        rw [HCC.out]
        have hb5 : Below W.heap.size W w5 := hb.trans (bl.mono hb.size)
        go_simp
        rw [HInv.out]
        exact ⟨_, _, _, _, _, _, _, _, _, _, _, rfl, fun h => h0 (kp 0 (by decide) h), fun h => h1 (kp 1 (by decide) h), fun h => h2 (kp 2 (by decide) h), fun h => h3 (kp 3 (by decide) h), fun h => h4 (kp 4 (by decide) h), fun h => h5 (kp 5 (by decide) h), fun h => h6 (kp 6 (by decide) h), fun h _ => by obtain ⟨A, c, e, r⟩ := h7 (kp 7 (by decide) h) (hnl (by decide)); exact ⟨A, c, e, r.below bl⟩, fun _ => rfl, fun h => h9 (kp 9 (by decide) h), fun h => h10 (kp 10 (by decide) h), fun _ => hb5, fun h => (hno (by decide) h).elim⟩
      · cases ho
        have hb := h11 (hnl (by decide))
        have d4 : listed.getD 4 false = true := hdep { on := 4, ground := .data } (by simp) rfl
        have d8 : listed.getD 8 false = true := hdep { on := 8, ground := .data } (by simp) rfl
        obtain rfl := h4 d4
        obtain rfl := h8 d8
        unfold wpOp
        go_simp
        refine .inl ?_
        rw [HInv.out]
        exact ⟨_, _, _, _, _, _, _, _, _, _, _, rfl, fun h => h0 (kp 0 (by decide) h), fun h => h1 (kp 1 (by decide) h), fun h => h2 (kp 2 (by decide) h), fun h => h3 (kp 3 (by decide) h), fun h => h4 (kp 4 (by decide) h), fun h => h5 (kp 5 (by decide) h), fun h => h6 (kp 6 (by decide) h), fun h _ => h7 (kp 7 (by decide) h) (hnl (by decide)), fun h => h8 (kp 8 (by decide) h), fun _ => rfl, fun h => h10 (kp 10 (by decide) h), fun _ => hb, fun h => (hno (by decide) h).elim⟩
      · cases ho
        have hb := h11 (hnl (by decide))
        have d0 : listed.getD 0 false = true := hdep { on := 0, ground := .data } (by simp) rfl
        have d9 : listed.getD 9 false = true := hdep { on := 9, ground := .data } (by simp) rfl
        obtain rfl := h0 d0
        obtain rfl := h9 d9
        unfold wpOp
        go_simp
        refine .inl ?_
        rw [HInv.out]
        exact ⟨_, _, _, _, _, _, _, _, _, _, _, rfl, fun h => h0 (kp 0 (by decide) h), fun h => h1 (kp 1 (by decide) h), fun h => h2 (kp 2 (by decide) h), fun h => h3 (kp 3 (by decide) h), fun h => h4 (kp 4 (by decide) h), fun h => h5 (kp 5 (by decide) h), fun h => h6 (kp 6 (by decide) h), fun h _ => h7 (kp 7 (by decide) h) (hnl (by decide)), fun h => h8 (kp 8 (by decide) h), fun h => h9 (kp 9 (by decide) h), fun _ => rfl, fun _ => hb, fun h => (hno (by decide) h).elim⟩
      · cases ho
        have hb := h11 hun
        have d10 : listed.getD 10 false = true := hdep { on := 10, ground := .data } (by simp) rfl
        obtain rfl := h10 d10
        have e0 := cell_of_block ((hb.block _ (Array.getElem?_eq_some_iff.1 HH2.out).1).trans HH2.out)
        have e1 := frozen_of_row w' _ 0 _ _ ((hb.block _ (Array.getElem?_eq_some_iff.1 HH2.out).1).trans HH2.out)
        unfold wpOp
        go_simp
        refine .inl ?_
        rw [HInv.out]
        exact ⟨_, _, _, _, _, _, _, _, _, _, _, rfl, fun h => h0 (kp 0 (by decide) h), fun h => h1 (kp 1 (by decide) h), fun h => h2 (kp 2 (by decide) h), fun h => h3 (kp 3 (by decide) h), fun h => h4 (kp 4 (by decide) h), fun h => h5 (kp 5 (by decide) h), fun h => h6 (kp 6 (by decide) h), fun _ h => (by rw [listed_same (by rw [hsz]; decide)] at h; cases h), fun h => h8 (kp 8 (by decide) h), fun h => h9 (kp 9 (by decide) h), fun h => h10 (kp 10 (by decide) h), fun h => (by rw [listed_same (by rw [hsz]; decide)] at h; cases h), fun _ => ⟨w', hb, rfl⟩⟩
    case hend =>
      rintro listed a' w' hall hinv
      rw [HInv.out] at hinv
      obtain ⟨y11, y12, y13, y14, y15, y16, y17, y18, y19, y20, y21, rfl, -, -, -, -, -, -, -, -, -, -, -, -, h12⟩ := hinv
      obtain ⟨w6, hb6, rfl⟩ := h12 (hall 11 (by decide))
      gi_wp2
      exact HPOST.out _ hb6
  case done =>
    rintro W ⟨h1, h2, h3⟩ hK
    have hcb2 := cell_of_block h2
    have HBW : Hid (Below w.heap.size w W) := HB1.out.trans ((HA0.out.mono (by omega)).trans (h3.low (by omega) (by omega)))
    have FIN : Hid (Below w.heap.size w (W.putObj W0.heap.size (.deferred none))) := HBW.out.trans (put_below _ (by omega) HBW.out.size)
    have HK := Lib.hid hK; clear h1 h2 h3 hK
    gi_wp2
    refine ⟨by simp, .inl ⟨_, _, rfl, run_takeDeferred HK.out, ?_⟩⟩
    exact ⟨_, results_tmp rfl _ _ _, rfl, FIN.out⟩

end Go.Proofs.Ytlnegaenjcekcaa

namespace Go.Proofs.Ytlnegaenjcekcaa
open Go.RowKit

set_option maxHeartbeats 1600000 in
theorem impl_brR (w : World) (A A' : Option Addr) (n n' c c' : Nat) (t f : List Int) (h : Rd w A n t) (h' : Rd w A' n' f) (hn : n ≤ 1048576) (hn' : n' ≤ 1048576) (k : Int) (B : Option Addr) (m d : Nat) (vss : List (List Int)) (hs : RdSS w B m vss) (hm : m ≤ 1048576) (htot : total vss ≤ 1048576) {r : Int} (hR : brR t f k vss = r) :
    Calls Try.prog 23 #[.agg #[.slice A n c, .slice A' n' c'], .int .i64 k, .slice B m d] w fun e w' => e = .returned (.int .i64 r) ∧ Below w.heap.size w w' := by
  obtain ⟨W0, hW0, hx, hb, hz⟩ := Box.local_ w 30 (.slice A n c) (.slice A' n' c')
  have c0 := hx.cell0
  have c1 := hx.cell1
  have HB := Lib.hid hb; have H := Lib.hid h; have H' := Lib.hid h'; have HS := Lib.hid hs
  clear hx hb h h' hs hz
  cases hv : vvB t f k vss with
  | false =>
    obtain rfl : r = -1 := by rw [← hR, brR, if_neg (by rw [hv]; decide)]
    have HV := Lib.hid hv; clear hv hR
    go_enter Try.func23, Try.ntmps23
    go_wp2_with (go_at_call 53; refine (voltageOf_any _ A A' n n' c c' t f (H.out.below HB.out) (H'.out.below HB.out) hn hn' k B m d vss (HS.out.below HB.out) hm htot HV.out).mono ?_; rintro e w1 ⟨p, rfl, b, -⟩; have HB1 := Lib.hid (HB.out.trans (b.mono HB.out.size)); clear b c0 c1)
    go_ret
    exact ⟨rfl, HB1.out⟩
  | true =>
    have HV := Lib.hid hv
    obtain ⟨kn, rfl, hvt⟩ := Volt_of hv
    have HF : Hid (brN f kn vss (cyclesL (mulL f t)) (cyclesL (mulL f t)).length = r) := by rw [Hid, ← hR, brR, if_pos hv, Int.toNat_natCast]
    have HVT := Lib.hid hvt
    clear hv hvt hR
    go_enter Try.func23, Try.ntmps23
    go_wp2_with (first
      | (go_at_call 53; refine (voltageOf_any _ A A' n n' c c' t f (H.out.below HB.out) (H'.out.below HB.out) hn hn' (kn : Int) B m d vss (HS.out.below HB.out) hm htot HV.out).mono ?_; rintro e w1 ⟨p, rfl, b, hva⟩; obtain ⟨bv, kn', rfl, hkn, hva⟩ := hva rfl; obtain rfl : kn = kn' := (by omega); have HVA := Lib.hid hva; have HB1 := Lib.hid (HB.out.trans (b.mono HB.out.size)); clear b c0 c1 hva hkn)
      | (go_at_call 58; refine (branch_any w1 bv t f kn vss HVT.out HVA.out).mono ?_; rintro e w3 ⟨rfl, b⟩; rw [HF.out]; have HB3 := Lib.hid (HB1.out.trans (b.mono HB1.out.size)); clear b))
    go_ret
    exact ⟨rfl, HB3.out⟩


end Go.Proofs.Ytlnegaenjcekcaa
