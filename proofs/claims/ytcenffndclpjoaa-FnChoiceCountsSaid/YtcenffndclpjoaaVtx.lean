/-
  The numbers of the vertices: the model's and the program's (a loop over the cycles).
-/
import Derived.Test.YtcenffndclpjoaaRibN
import Derived.Test.YtcenffndclpjoaaKitSS
import Derived.Deep.OwnRows
namespace Go.Proofs.Ytcenffndclpjoaa
open Go.RowKit Go.Shelf
attribute [local go_sem] Oper.semAt_some

/-- The number of the cycle of a point. -/
noncomputable def vertN (t : List Int) (d : Nat) : Nat := leastOf fun j => j < (cyclesL t).length ∧ inC ((cyclesL t).getD j []) d
noncomputable def vertL (t : List Int) : List Int := tab t.length fun d => (vertN t d : Int)
theorem vertL_len (t : List Int) : (vertL t).length = t.length := tab_len _ _
/-- The points of the cycles so far have their numbers. -/
def Numd (zs : List Int) (pre : List (List Int)) : Prop := ∀ j, j < pre.length → ∀ q, q < (pre.getD j []).length → gi zs (gn (pre.getD j []) q) = (j : Int)
theorem getD_mem {cs : List (List Int)} {j : Nat} (h : j < cs.length) : cs.getD j [] ∈ cs := by
  have : cs.getD j [] = cs[j] := by simp [List.getD, h]
  rw [this]; exact List.getElem_mem h
theorem numd_all {t zs : List Int} (ht : Vld t) (hl : zs.length = t.length) (h : Numd zs (cyclesL t)) : zs = vertL t := by
  refine tab_ext hl fun d hd => ?_
  obtain ⟨h1, h2, h3⟩ := cyclesL_spec ht
  obtain ⟨c, hc, hcd⟩ := h2 d hd
  obtain ⟨j, hj, rfl⟩ := List.getElem_of_mem hc
  have hgd : (cyclesL t).getD j [] = (cyclesL t)[j] := by simp [List.getD, hj]
  obtain ⟨⟨k1, k2⟩, _⟩ := leastOf_spec (p := fun j => j < (cyclesL t).length ∧ inC ((cyclesL t).getD j []) d) ⟨j, hj, by rw [hgd]; exact hcd⟩
  obtain ⟨q, hq, hqd⟩ := k2
  have := h _ k1 q hq
  rw [hqd] at this
  exact this
theorem Numd.more {zs' : List Int} {pre : List (List Int)} {x : List Int} (h : Numd zs' pre) (hx : ∀ q, q < x.length → gi zs' (gn x q) = (pre.length : Int)) : Numd zs' (pre ++ [x]) := by
  intro j hj q hq
  rw [List.length_append] at hj
  by_cases e : j < pre.length
  · rw [getD_append_left' _ _ _ e] at hq ⊢
    exact h j e q hq
  · have : j = pre.length := by simp at hj; omega
    subst this
    have e2 : (pre ++ [x]).getD pre.length [] = x := by simp [List.getD]
    rw [e2] at hq ⊢
    exact hx q hq
theorem Numd.set {zs : List Int} {pre : List (List Int)} {d : Nat} {v : Int} (h : Numd zs pre) (hd : d < zs.length) (hn : ∀ c, c ∈ pre → ¬ inC c d) : Numd (zs.set d v) pre := by
  intro j hj q hq
  rw [gi_set _ _ _ _ hd, if_neg]
  · exact h j hj q hq
  · intro e
    exact hn _ (getD_mem hj) ⟨q, hq, e⟩

set_option maxRecDepth 20000 in
set_option maxHeartbeats 1600000 in
theorem l7Vertices_any (A : Option Addr) (n c : Nat) (t : List Int) (w : World) (h : Rd w A n t) (ht : Vld t) :
    Calls Try.prog 53 #[.slice A n c] w fun e w' => ∃ v, e = .returned v ∧ Own w' w.heap.size v (vertL t) ∧ Below w.heap.size w w' := by
  obtain ⟨i0, hinf, hz0, hz1, hz2⟩ := info_parts info_int
  have hn12 : n ≤ 12 := by rw [← h.1]; exact ht.2.1
  obtain ⟨V, hV⟩ : ∃ V, (cyclesL t).length = V := ⟨_, rfl⟩
  have hV12 : V ≤ 12 := by rw [← hV]; have := cyclesL_len (p := t); have := ht.2.1; omega
  have H := Lib.hid h; have HT := Lib.hid ht; have HVV := Lib.hid hV; have HSP := Lib.hid (cyclesL_spec ht).2.2; clear h ht hV
  go_enter Try.func53, Try.ntmps53
  go_wp2_with (at_make; refine wpList_make_full _ rfl _ _ 23 rfl w.heap.size 3 i0 (.int .i64 0) 1 Try.underlying23 hinf hz0 hz1 .i64 .i64 _ _ n rfl rfl rfl rfl (by rw [hz2]; omega) (by unfold maxLen; omega) (Nat.le_refl _) ?_; intro w1 hown1 hgrow1)
  have HB1 := Lib.hid (below_of_grown hgrow1 (Nat.le_refl _) (fun k hk => by cases hk))
  have HO1 := Lib.hid (Own.made hown1)
  have hg1 := (HO1.out.lt w.heap.size rfl).2
  clear hown1 hgrow1 hz0 hz1 hz2 hinf
  refine (l1Cycles_any A n c t w1 (H.out.below HB1.out) HT.out).mono ?_
  rintro e w2 ⟨v, rfl, o, b⟩
  obtain ⟨A3, c3, rfl⟩ := o.form_len HVV.out
  have HLO : Hid (∀ k, (Value.slice A3 V c3).ownBlock = some k → w1.heap.size ≤ k) := fun k hk => (o.lt k hk).1
  have HSS := Lib.hid o
  have HO2 := Lib.hid (HO1.out.below b); have HB2 := Lib.hid (HB1.out.trans (b.mono HB1.out.size))
  clear o b
  go_wp2_with fail
  go_loopw [5, 6] (fun iv _ wr => ∃ (i : Nat) (zs : List Int), i ≤ V ∧ iv = .int .i64 i ∧ Hid (Own wr w.heap.size (.slice (some ⟨w.heap.size, 0, none⟩) n n) zs) ∧ Hid (zs.length = n) ∧ Hid (Numd zs ((cyclesL t).take i)) ∧ Hid (w2.grownBy wr (some w.heap.size))) (fun iv _ _ => V - (intOf iv).toNat)
  case atStart => exact ⟨0, _, Nat.zero_le _, rfl, HO2, by simp [Hid], fun j hj => absurd hj (by simp), World.grownBy.refl _ _⟩
  case round =>
    obtain ⟨i, zs, hi, rfl, ho, hzl, hnd, hg⟩ := hrel
    by_cases hlt : i < V
    · obtain ⟨cy, hcyd⟩ : ∃ cy, (cyclesL t).getD i [] = cy := ⟨_, rfl⟩
      obtain ⟨hj1, hj2, hcy⟩ := cyc_few HT.out i (by rw [HVV.out]; exact hlt)
      rw [hcyd] at hj1 hj2 hcy
      obtain ⟨nj, hnj⟩ : ∃ nj, cy.length = nj := ⟨_, rfl⟩
      rw [hnj] at hj1 hj2
      rw [H.out.1] at hj2
      have HTK : Hid ((cyclesL t).take (i + 1) = (cyclesL t).take i ++ [cy] ∧ ((cyclesL t).take i).length = i) := by
        refine ⟨?_, by rw [List.length_take, HVV.out]; omega⟩
        rw [List.take_add_one, List.getElem?_eq_getElem (by rw [HVV.out]; exact hlt), ← hcyd]
        simp [List.getD, HVV.out, hlt]
      have HDIS : Hid (∀ c, c ∈ (cyclesL t).take i → ∀ y, inC c y → ¬ inC cy y) := by
        have hpre : (cyclesL t).take i ++ [cy] <+: cyclesL t := by rw [← HTK.out.1]; exact List.take_prefix _ _
        intro c hc y hy hy'
        exact (prefix_last hpre HSP.out).2 c hc y hy hy'
      have HCY := Lib.hid hcy; have HCD := Lib.hid hcyd; have HNJ := Lib.hid hnj
      obtain ⟨wo, hwo⟩ : ∃ wo : World, wo = wr := ⟨_, rfl⟩
      subst hwo
      have hrd : ∀ W : World, w2.grownBy W (some w.heap.size) → RdSS W A3 V (cyclesL t) := fun _ hgw => ((HSS.out.over hgw (fun k hk => by cases hk; omega))).rd HVV.out
      have HRDD := Lib.hid hrd
      obtain ⟨ad, Aj, cj, nj', hAe, hc, hr, -⟩ := (hrd _ hg.out).at_ hlt
      subst hAe
      rw [hcyd] at hr
      obtain rfl : nj = nj' := by rw [← hr.1, hnj]
      clear hr hcy hcyd hnj hrd
      go_wp2_with fail
      go_loopw [6] (fun kv wr => ∃ (k : Nat) (zs : List Int), k ≤ nj ∧ kv = .int .i64 k ∧ Hid (Own wr w.heap.size (.slice (some ⟨w.heap.size, 0, none⟩) n n) zs) ∧ Hid (zs.length = n) ∧ Hid (Numd zs ((cyclesL t).take i)) ∧ Hid (∀ q, q < k → gi zs (gn cy q) = (i : Int)) ∧ Hid (w2.grownBy wr (some w.heap.size))) (fun kv _ => nj - (intOf kv).toNat)
      case atStart => exact ⟨0, zs, Nat.zero_le _, rfl, ho, hzl, hnd, fun q hq => absurd hq (by omega), hg⟩
      case round =>
        clear ho hzl hnd hg hc
        obtain ⟨k, zs, hk, rfl, ho, hzl, hnd, hq, hg⟩ := hrel
        obtain ⟨ad', Aj', cj', nj', e1, hc, hr, -⟩ := (HRDD.out _ hg.out).at_ hlt
        simp only [Option.some.injEq] at e1
        subst e1
        rw [HCD.out] at hr
        obtain rfl : nj = nj' := by rw [← hr.1, HNJ.out]
        by_cases hkl : k < nj
        · obtain ⟨ad2, rfl, hc2⟩ := hr.at_ hkl
          have hkc : k < cy.length := by rw [HNJ.out]; exact hkl
          have hx := HCY.out.nat k hkc
          have hxl := HCY.out.lt k hkc
          obtain ⟨x, hxx⟩ : ∃ x, gn cy k = x := ⟨_, rfl⟩
          rw [hxx] at hx hxl
          rw [hx] at hc2
          rw [H.out.1] at hxl
          obtain ⟨g1, e1, -, hc3, hf3⟩ := ho.out.cellAt hzl.out hxl
          simp only [Option.some.injEq, Addr.mk.injEq, and_true] at e1
          subst e1
          have HST := Lib.hid (ho.out.stored hzl.out x (i : Int))
          have HXX := Lib.hid hxx
          clear hx hxx hr hkc
          go_wp2_with fail
          go_roundw
          case rel =>
            have hxz : x < zs.length := by rw [hzl.out]; exact hxl
            refine ⟨k + 1, zs.set x (i : Int), by omega, by go_num, HST.out.1, by rw [Hid, List.length_set]; exact hzl.out, hnd.out.set hxz (fun c hc h' => HDIS.out c hc x h' ⟨k, by rw [HNJ.out]; exact hkl, HXX.out⟩), fun q hq' => ?_, grownBy_trans hg.out HST.out.2⟩
            rw [gi_set _ _ _ _ hxz]
            by_cases e : q = k
            · rw [e, HXX.out, if_pos rfl]
            · split
              · rfl
              · exact hq.out q (by omega)
          case measure => simp [intOf]; omega
        · have hkn : k = nj := by omega
          have HND : Hid (Numd zs ((cyclesL t).take (i + 1))) := by
            rw [Hid, HTK.out.1]
            refine hnd.out.more fun q hq' => ?_
            rw [HTK.out.2]
            exact hq.out q (by rw [HNJ.out] at hq'; omega)
          clear hkn hr
          go_wp2_with fail
          go_roundw
          case rel => exact ⟨i + 1, zs, by omega, by go_num, ho, hzl, HND, hg⟩
          case measure => simp [intOf]; omega
    · have hiV : i = V := by omega
      have HE : Hid (zs = vertL t) := numd_all HT.out (by rw [hzl.out, H.out.1]) (by have := hnd.out; rwa [hiV, ← HVV.out, List.take_length] at this)
      clear hiV
      go_wp2_with fail
      go_ret
      exact ⟨_, rfl, by rw [← HE.out]; exact ho.out, HB2.out.trans (below_of_grown hg.out HB2.out.size (fun k hk => by cases hk; exact Nat.le_refl _))⟩

set_option maxRecDepth 100000 in
set_option maxHeartbeats 4000000 in
theorem vertexNumbers_at (b : Nat) (A A' : Option Addr) (n n' c c' : Nat) (t : List Int) (w : World) (hb : MapAt w b A n c A' n' c') (h : Rd w A n t) (ht : Vld t) :
    Calls Try.prog 48 #[.pointer (some ⟨b, 0, none⟩)] w fun e w' => ∃ v, e = .returned v ∧ Own w' w.heap.size v (vertL t) ∧ Below w.heap.size w w' := by
  have h12 : n ≤ 12 := by rw [← h.1]; exact ht.2.1
  have hV12 : (cyclesL t).length ≤ 12 := by have := cyclesL_len (p := t); have := ht.2.1; omega
  have c0 := hb.cell0
  have hbl := hb.lt
  have H0 := Lib.hid h; have HV := Lib.hid ht; have HX := Lib.hid hb; have Hn := Lib.hid h.1; clear h ht hb
  have hmk := run_make_row' (P := Try.prog) 23 3 (.int .i64 0) 8 Try.underlying23 info_int rfl .i64 .i64 n (by omega) (by omega)
  refine (callsIn_wide (n := 5)).1 ?_
  refine callsIn_of_wp_marks Try.func48 rfl trivial ?_
  simp only [Try.ntmps48, List.size_toArray, List.length_cons, List.length_nil, Nat.reduceAdd, Nat.reduceSub, Array.replicate_succ, Array.replicate_zero, List.push_toArray, List.append_toArray, List.nil_append, List.cons_append]
  have HB0' : Hid (Below w.heap.size w (((w.alloc (.cells (madeCells #[.int .i64 0] n) 3)).alloc (.cells #[.slice (some ⟨w.heap.size, 0, none⟩) n n] 23)).alloc (.cells #[.int .i64 0] 3))) :=
    ((((Below.refl _ w).alloc (Nat.le_refl _) _).alloc (by simp) _).alloc (by simp; omega) _)
  have c0' : (((w.alloc (.cells (madeCells #[.int .i64 0] n) 3)).alloc (.cells #[.slice (some ⟨w.heap.size, 0, none⟩) n n] 23)).alloc (.cells #[.int .i64 0] 3)).cell? ⟨b, 0, none⟩ = some (.slice A n c) := (HB0'.out.cell (p := ⟨b, 0, none⟩) hbl).trans c0
  gi_wp2_with fail
  refine ⟨trivial, ?_⟩
  refine (callsIn_wide.2 (cycles_any A n c _)).mono ?_
  rintro e w2 ⟨rfl, rfl⟩
  gi_wp2_with fail
  obtain ⟨W0, hW0⟩ : ∃ W0, ((((w.alloc (.cells (madeCells #[.int .i64 0] n) 3)).alloc (.cells #[.slice (some ⟨w.heap.size, 0, none⟩) n n] 23)).alloc (.cells #[.int .i64 0] 3)).alloc (.cells #[.slice A n c] 64)) = W0 := ⟨_, rfl⟩
  rw [hW0]
  have hz0 : w.heap.size + 4 = W0.heap.size := by rw [← hW0]; simp
  have HOW : Hid (Own W0 w.heap.size (.slice (some ⟨w.heap.size, 0, none⟩) n n) (List.replicate n 0)) := by
    have h1 := World.ownsRow_lit (base := w.heap.size) (e := 3) (size := 1) w (madeCells #[.int .i64 0] n) n (Nat.le_refl _) (by unfold maxLen; omega) (by simp [madeCells])
    have h2 : Own (w.alloc (.cells (madeCells #[.int .i64 0] n) 3)) w.heap.size (.slice (some ⟨w.heap.size, 0, none⟩) n n) (List.replicate n 0) := by
      unfold Own
      rw [toList_madeCells_one] at h1
      simpa [ints] using h1
    rw [← hW0]
    exact ((h2.below ((Below.refl _ _).alloc (Nat.le_refl _) _)).below ((Below.refl _ _).alloc (Nat.le_refl _) _)).below ((Below.refl _ _).alloc (Nat.le_refl _) _)
  have HBR : Hid (W0.heap[w.heap.size + 1]? = some (.cells #[.slice (some ⟨w.heap.size, 0, none⟩) n n] 23 (0, 0))) := by
    rw [← hW0]
    have := heap_alloc_new (w.alloc (.cells (madeCells #[.int .i64 0] n) 3)) (.cells #[.slice (some ⟨w.heap.size, 0, none⟩) n n] 23)
    rw [World.size_alloc] at this
    exact box_alloc (box_alloc this)
  have HBV : Hid (W0.heap[w.heap.size + 1 + 1]? = some (.cells #[.int .i64 0] 3 (0, 0))) := by
    rw [← hW0]
    have := heap_alloc_new ((w.alloc (.cells (madeCells #[.int .i64 0] n) 3)).alloc (.cells #[.slice (some ⟨w.heap.size, 0, none⟩) n n] 23)) (.cells #[.int .i64 0] 3)
    rw [World.size_alloc, World.size_alloc] at this
    exact box_alloc this
  have HPM : Hid (W0.heap[w.heap.size + 1 + 1 + 1]? = some (.cells #[.slice A n c] 64 (0, 0))) := by
    rw [← hW0]
    have := heap_alloc_new (((w.alloc (.cells (madeCells #[.int .i64 0] n) 3)).alloc (.cells #[.slice (some ⟨w.heap.size, 0, none⟩) n n] 23)).alloc (.cells #[.int .i64 0] 3)) (.cells #[.slice A n c] 64)
    rw [World.size_alloc, World.size_alloc, World.size_alloc] at this
    exact this
  have HB0 : Hid (Below w.heap.size w W0) := by
    rw [← hW0]; exact (((((Below.refl _ w).alloc (Nat.le_refl _) _).alloc (by simp) _).alloc (by simp; omega) _).alloc (by simp; omega) _)
  have HR0 := Lib.hid (H0.out.below HB0.out)
  have hws : w.heap.size ≤ W0.heap.size := HB0.out.size
  have HSP := Lib.hid (cyclesL_spec HV.out)
  clear hW0 hmk c0 c0' HB0'
  refine range_cycles (F := Fence.wide) (n := 5) (Bn := w.heap.size + 1 + 1 + 1) (n₀ := w.heap.size) (xs := cyclesL t) rfl (by omega) rfl trivial (enters_of Try.func89 (by kernel_rfl) rfl)
    (cycles1_in (F := Fence.wide) (n := 4) trivial rfl (by omega) (w.heap.size + 1 + 1 + 1) w.heap.size W0.heap.size A n c t W0 HPM.out HR0.out (Rd.lt H0.out) HV.out hws (Nat.le_refl _)) hws
    (fun _ pre W => W.heap[w.heap.size + 1]? = some (.cells #[.slice (some ⟨w.heap.size, 0, none⟩) n n] 23 (0, 0)) ∧ W.heap[w.heap.size + 1 + 1]? = some (.cells #[.int .i64 (pre.length : Nat)] 3 (0, 0)) ∧
      (∃ zs, Own W w.heap.size (.slice (some ⟨w.heap.size, 0, none⟩) n n) zs ∧ zs.length = n ∧ Numd zs pre) ∧ Below w.heap.size w W)
    (fun _ _ _ _ h _ => h)
    (fun _ pre A B ⟨h1, h2, ⟨zs, h3, h4, h5⟩, h6⟩ hz hgo => ⟨hgo.box h1 (by decide), hgo.box h2 (by decide), ⟨zs, ownsRow_same h3 (fun g cs h => hgo.box h (by decide)), h4, h5⟩, h6.trans ((hgo.below hz).mono hws)⟩)
    (fun _ pre W l o o' ⟨h1, h2, ⟨zs, h3, h4, h5⟩, h6⟩ hl hlo ho => ⟨put_box h1 hlo ho, put_box h2 hlo ho, ⟨zs, ownsRow_same h3 (fun g cs h => put_box h hlo ho), h4, h5⟩, h6.trans (put_below o' (by omega) h6.size)⟩)
    ⟨HBR.out, HBV.out, ⟨_, HOW.out, by simp, fun j hj => absurd hj (by simp)⟩, HB0.out⟩
    (fun v => { tmps := #[.pointer (some ⟨b, 0, none⟩), undef, .slice none 0 0, .pointer (some ⟨w.heap.size + 1, 0, none⟩), .pointer (some ⟨w.heap.size + 1 + 1, 0, none⟩), v, undef, undef, .pointer (some ⟨b, 0, none⟩), .pointer (some ⟨b, 0, none⟩), .pointer (some ⟨b, 0, none⟩), .slice A n c, .int .i64 n, .slice (some ⟨w.heap.size, 0, none⟩) n n,
      .pointer (some ⟨b, 0, none⟩), .pointer (some ⟨b, 0, none⟩), .pointer (some ⟨b, 0, none⟩), .slice A n c, .func (.func 89) #[] #[.pointer (some ⟨w.heap.size + 1 + 1 + 1, 0, none⟩)], v, undef, undef, undef, undef, undef, undef, undef, undef, undef, undef, undef, undef, undef, undef], defers := [] }) ?assign ?body ?done
  case assign =>
    intro l v W K hK
    gi_wp2
    exact hK
  case body =>
    rintro l B pre x u W ⟨hbr, hbv, ⟨zs, ho, hzl, hmv⟩, hbe⟩ hzB hBW hu hpre
    obtain ⟨hxm, hdis⟩ := prefix_last hpre HSP.out.2.2
    have hcy := HSP.out.1 x hxm
    have hsh := cyclesL_short hxm
    have hL0 := hcy.pos
    obtain ⟨L, hL⟩ : ∃ L, x.length = L := ⟨_, rfl⟩
    rw [hL] at hsh hL0
    obtain ⟨m, hm⟩ : ∃ m, pre.length = m := ⟨_, rfl⟩
    have hm12 : m ≤ 12 := by
      have := hpre.length_le
      rw [List.length_append] at this
      omega
    rw [hm] at hbv
    have hul := hu.lt
    obtain ⟨Au, cu, rfl, hrd, -⟩ := hu.form' hL
    have hcr := cell_of_block hbr
    have hcv := cell_of_block hbv
    have HCY := Lib.hid hcy; have HDIS := Lib.hid hdis; have HU := Lib.hid hu; have HUL := Lib.hid hul; have HRD := Lib.hid hrd; have HL := Lib.hid hL; have HO := Lib.hid ho; have HZL := Lib.hid hzl; have HMV := Lib.hid hmv; have HBE := Lib.hid hbe; have HBV1 := Lib.hid hbv; have HBR1 := Lib.hid hbr; have HM := Lib.hid hm
    clear hcy hdis hu hul hrd hL ho hzl hmv hbe hbv hbr hxm hpre hm
    have hbs := HBE.out.size
    gi_wp2
    gi_loopw [7, 22] (fun _ jv wx' => ∃ (wx : World) (j : Nat) (zs : List Int), wx = wx' ∧ jv = .int .i64 j ∧ j ≤ L ∧ Hid (Own wx w.heap.size (.slice (some ⟨w.heap.size, 0, none⟩) n n) zs) ∧ Hid (zs.length = n) ∧ Hid (Numd zs pre) ∧
      Hid (∀ i, i < j → gi zs (gn x i) = (m : Int)) ∧ Hid (W.grownBy wx (some w.heap.size))) (fun _ jv _ => L - (intOf jv).toNat)
    case atStart => exact ⟨_, 0, zs, rfl, rfl, Nat.zero_le _, HO, HZL, HMV, fun i hi => absurd hi (by omega), World.grownBy.refl _ _⟩
    case round =>
      clear hcr hcv
      obtain ⟨wx, j, ys, rfl, rfl, hj, hoy, hyl, hmy, hpart, HG⟩ := hrel
      have HBRX : Hid (wx.heap[w.heap.size + 1]? = some (.cells #[.slice (some ⟨w.heap.size, 0, none⟩) n n] 23 (0, 0))) := (HG.out.block _ (Array.getElem?_eq_some_iff.1 HBR1.out).1 (by simp)).trans HBR1.out
      have HBVX : Hid (wx.heap[w.heap.size + 1 + 1]? = some (.cells #[.int .i64 (m : Nat)] 3 (0, 0))) := (HG.out.block _ (Array.getElem?_eq_some_iff.1 HBV1.out).1 (by simp; omega)).trans HBV1.out
      have hcr := cell_of_block HBRX.out
      have hcv := cell_of_block HBVX.out
      by_cases hlt : j < L
      · have HUX : Hid (Own wx B (.slice Au L cu) x) := HU.out.grown HG.out (by
          cases hb : Value.ownBlock (.slice Au L cu) with
          | none => exact .inl rfl
          | some q => exact .inr (fun e => by have := (HUL.out q hb).1; injection e with e; omega))
        obtain ⟨ad, hAe, hcx⟩ := (HUX.out.rd HL.out).at_ hlt
        subst hAe
        have hxg := HCY.out.nat j (by rw [HL.out]; exact hlt)
        have hxn := HCY.out.lt j (by rw [HL.out]; exact hlt)
        rw [hxg] at hcx
        rw [Hn.out] at hxn
        obtain ⟨y, hy⟩ : ∃ y, gn x j = y := ⟨_, rfl⟩
        rw [hy] at hcx hxn
        obtain ⟨g, hg, _, hc3, hf3⟩ := hoy.out.cellAt hyl.out hxn
        simp only [Option.some.injEq, Addr.mk.injEq, and_true] at hg
        subst hg
        have hxi : (y : Int) < n := by omega
        have HS := Lib.hid (hoy.out.stored hyl.out y (m : Int))
        have HPOST : Hid ((ys.set y (m : Int)).length = n ∧ Numd (ys.set y (m : Int)) pre ∧ (∀ i, i < j + 1 → gi (ys.set y (m : Int)) (gn x i) = (m : Int)) ∧ W.grownBy (wx.setCell ⟨w.heap.size, y, none⟩ (.int .i64 (m : Int))) (some w.heap.size)) := by
          have hin : y < ys.length := by rw [hyl.out]; exact hxn
          refine ⟨by simpa using hyl.out, hmy.out.set hin (fun c hc h' => HDIS.out c hc y h' ⟨j, by rw [HL.out]; exact hlt, hy⟩), fun i hi => ?_, grownBy_trans HG.out HS.out.2⟩
          rw [gi_set _ _ _ _ hin]
          by_cases e : i = j
          · subst e; rw [hy, if_pos rfl]
          · split
            · rfl
            · exact hpart.out i (by omega)
        clear hxg hy
        clear h12 H0 HV Hn HX HOW HBR HBV HPM HB0 HR0 HSP hzB hBW HCY HDIS HU HUL HRD HL HO HZL HMV HBE HBV1 HBR1 HUX HBRX HBVX HG hoy hyl hmy hpart hws hz0 hbs HM
        gi_wp2
        go_roundw
        case rel => exact ⟨_, j + 1, _, rfl, by go_num, by omega, HS.out.1, HPOST.out.1, HPOST.out.2.1, HPOST.out.2.2.1, HPOST.out.2.2.2⟩
        case measure => simp [intOf]; omega
      · have hjL : j = L := by omega
        have hfv : wx.frozen? ⟨w.heap.size + 1 + 1, 0, none⟩ = false := frozen_of_row wx _ 0 _ _ HBVX.out
        have HPOST : Hid (Keep w.heap.size W (wx.setCell ⟨w.heap.size + 1 + 1, 0, none⟩ (.int .i64 ((m : Int) + 1))) ∧ ((wx.setCell ⟨w.heap.size + 1 + 1, 0, none⟩ (.int .i64 ((m : Int) + 1))).heap[w.heap.size + 1]? = some (.cells #[.slice (some ⟨w.heap.size, 0, none⟩) n n] 23 (0, 0)) ∧
            (wx.setCell ⟨w.heap.size + 1 + 1, 0, none⟩ (.int .i64 ((m : Int) + 1))).heap[w.heap.size + 1 + 1]? = some (.cells #[.int .i64 ((pre ++ [x]).length : Nat)] 3 (0, 0)) ∧
            (∃ zs, Own (wx.setCell ⟨w.heap.size + 1 + 1, 0, none⟩ (.int .i64 ((m : Int) + 1))) w.heap.size (.slice (some ⟨w.heap.size, 0, none⟩) n n) zs ∧ zs.length = n ∧ Numd zs (pre ++ [x])) ∧ Below w.heap.size w (wx.setCell ⟨w.heap.size + 1 + 1, 0, none⟩ (.int .i64 ((m : Int) + 1))))) := by
          have hkp : Keep w.heap.size W wx := (Keep.refl _ W).grown hbs HG.out (fun r e => by
            cases e
            obtain ⟨_, cs, h⟩ := row_kind HO.out w.heap.size rfl
            exact ⟨Nat.le_refl _, _, h, not_shut (by decide) (by decide)⟩)
          have hgs := grown_set wx (w.heap.size + 1 + 1) 0 (.int .i64 ((m : Int) + 1))
          have hpl : ((pre ++ [x]).length : Int) = (m : Int) + 1 := by rw [List.length_append, HM.out]; simp
          refine ⟨hkp.trans (keep_set HBVX.out (by omega) (by decide) (by decide) 0), (hgs.block _ (Array.getElem?_eq_some_iff.1 HBRX.out).1 (by simp)).trans HBRX.out, by rw [hpl]; exact set_box HBVX.out, ⟨ys, hoy.out.grown hgs (.inr (fun e => by have e' : (some w.heap.size : Option Nat) = some (w.heap.size + 1 + 1) := e; injection e' with e'; omega)), hyl.out, hmy.out.more fun q hq => ?_⟩, (HBE.out.trans hkp.below).setCell (show w.heap.size ≤ w.heap.size + 1 + 1 by omega) _⟩
          rw [HM.out]
          exact hpart.out q (by rw [hjL, ← HL.out]; exact hq)
        clear h12 H0 HV Hn HX HOW HBR HBV HPM HB0 HR0 HSP hzB hBW HCY HDIS HU HUL HRD HL HO HZL HMV HBE HBV1 HBR1 HBRX HBVX HG hoy hyl hmy hpart hws hz0 hbs HM
        gi_wp2
        exact HPOST.out
  case done =>
    rintro W ⟨hbr, hbv, ⟨zs, ho, hzl, hmv⟩, hbe⟩ hK
    have hcr := cell_of_block hbr
    have FIN : Hid (Below w.heap.size w (W.putObj W0.heap.size (.deferred none))) := hbe.trans (put_below _ hws hbe.size)
    have HO : Hid (Own (W.putObj W0.heap.size (.deferred none)) w.heap.size (.slice (some ⟨w.heap.size, 0, none⟩) n n) (vertL t)) := by
      rw [← numd_all HV.out (by rw [hzl, Hn.out]) hmv]
      exact ownsRow_same ho (fun g cs h => put_box h hK rfl)
    have HK := Lib.hid hK; clear hbr hbv ho hzl hmv hbe hK
    gi_wp2
    refine ⟨by simp, .inl ⟨_, _, rfl, run_takeDeferred HK.out, ?_⟩⟩
    exact ⟨_, results_tmp rfl _ _ _, .slice (some ⟨w.heap.size, 0, none⟩) n n, rfl, HO.out, FIN.out⟩
theorem vertexNumbers_any (b : Nat) (A A' : Option Addr) (n n' c c' : Nat) (t : List Int) (w : World) (hb : Box2 w b A n c A' n' c') (h : Rd w A n t) (ht : Vld t) :
    Calls Try.prog 48 #[.pointer (some ⟨b, 0, none⟩)] w fun e w' => ∃ v, e = .returned v ∧ Own w' w.heap.size v (vertL t) ∧ Below w.heap.size w w' :=
  vertexNumbers_at b A A' n n' c c' t w hb.at_ h ht

end Go.Proofs.Ytcenffndclpjoaa
