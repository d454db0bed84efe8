/-
  CoverTrivial: the model's and the program's.
-/
import Derived.Test.YthcdhkelpepeeaaCovS
import Derived.Test.YthcdhkelpepeeaaSpecOrb
import Derived.Test.YthcdhkelpepeeaaStill
namespace Go.Proofs.Ythcdhkelpepeeaa
open Go.RowKit
set_option linter.unusedVariables false

theorem total_le {b : Nat} : ∀ {xss : List (List Int)}, (∀ j, j < xss.length → (xss.getD j []).length ≤ b) → total xss ≤ xss.length * b
  | [], _ => by simp [total]
  | x :: r, h => by
    have h0 := h 0 (by simp)
    have h1 := total_le (xss := r) fun j hj => by have := h (j + 1) (by simpa using hj); simpa using this
    simp only [total, List.length_cons, List.getD_cons_zero] at *
    rw [Nat.add_mul, Nat.one_mul]; omega
theorem rep_get {h j : Nat} {x : List Int} (hj : j < h) : (List.replicate h x).getD j [] = x := by simp [List.getD, hj]
theorem rep_snoc (h : Nat) (x : List Int) : List.replicate (h + 1) x = List.replicate h x ++ [x] := List.replicate_succ'
theorem marks_vld {k : Nat} (h1 : 1 ≤ k) (h2 : k ≤ 12) : Vld (marks 0 k) := by
  refine ⟨by rw [marks_len]; exact h1, by rw [marks_len]; exact h2, fun j hj => ?_, fun j hj i hi => ?_⟩
  · rw [marks_len] at hj ⊢; rw [gi_marks hj]; omega
  · rw [marks_len] at hj; rw [gi_marks hj, gi_marks (by omega)]; omega
theorem rep_total {h k : Nat} (hh : h ≤ 6) (hk : k ≤ 6) : total (List.replicate h (marks 0 k)) ≤ 36 := by
  have := total_le (b := 6) (xss := List.replicate h (marks 0 k)) fun j hj => by rw [List.length_replicate] at hj; rw [rep_get hj, marks_len]; exact hk
  rw [List.length_replicate] at this
  omega
theorem trv_volt {t f : List Int} {k : Nat} (hm : IsMap t f) (h1 : 1 ≤ k) (h6 : k ≤ 6) (hf : k * t.length ≤ 12) : Volt t f k (List.replicate (f.length / 2) (marks 0 k)) :=
  ⟨hm, h1, h6, hf, by simp, fun e he => by rw [List.length_replicate] at he; rw [rep_get he]; exact ⟨marks_vld h1 (by omega), marks_len _ _⟩⟩
theorem trvR_len {t f : List Int} {k : Int} {ys : List (List Int)} {ok : Bool} (h : trvR t f k = (ok, ys)) : ys.length ≤ 12 ∧ total ys ≤ 100 := by
  unfold trvR at h
  split at h
  · rename_i hc
    obtain ⟨kn, rfl, hm, h1, h6, hf⟩ := cvB_iff.1 hc
    simp only [Prod.mk.injEq] at h
    have := hm.flip.2.1
    rw [← h.2, List.length_replicate]
    exact ⟨by omega, by have := rep_total (h := f.length / 2) (k := kn) (by omega) h6; simp only [Int.toNat_natCast]; omega⟩
  · simp only [Prod.mk.injEq] at h
    rw [← h.2]; simp [total]

set_option maxRecDepth 20000 in
set_option maxHeartbeats 3200000 in
theorem spec_trvR (w : World) (A A' : Option Addr) (n n' c c' : Nat) (t f : List Int) (h : Rd w A n t) (h' : Rd w A' n' f) (hn : n ≤ 1048576) (hn' : n' ≤ 1048576) (k : Int) {ok : Bool} {ys : List (List Int)} (hR : trvR t f k = (ok, ys)) :
    Calls Try.prog 48 #[.agg #[.slice A n c, .slice A' n' c'], .int .i64 k] w fun e w' => ∃ v, e = .returned (.tuple #[v, .bool ok]) ∧ OwnSS w' w.heap.size w'.heap.size v ys ∧ Below w.heap.size w w' := by
  obtain ⟨i1, hinf1, hy0, hy1, hy2⟩ := info_parts info_slice
  obtain ⟨W0, hW0, hx, hb, hz⟩ := Box.local_ w 29 (.slice A n c) (.slice A' n' c')
  have hbE : Below W0.heap.size W0 (W0.alloc (.cells #[] 22)) := (Below.refl _ _).alloc (Nat.le_refl _) _
  have hx1 := hx.below hbE
  have c0' := hx.cell0; have c1' := hx.cell1
  obtain ⟨h2, hh2⟩ : ∃ h2, n' / 2 = h2 := ⟨_, rfl⟩
  have g2 : IntKind.i64.wrap ((n' : Int) / 2) = (h2 : Int) := by rw [IntWalk.i64_in _ (by omega)]; omega
  have g2' : (n' : Int) / 2 = (h2 : Int) := by omega
  have HHH := Lib.hid hh2
  have HX := Lib.hid hx1; have HB := Lib.hid (hb.trans (hbE.mono hb.size)); have HOE : Hid (OwnSS (W0.alloc (.cells #[] 22)) (w.heap.size + 1) (w.heap.size + 1) (.slice (some ⟨W0.heap.size, 0, none⟩) 0 0) []) := OwnSS.empty (by omega)
  have H := Lib.hid h; have H' := Lib.hid h'; have HR := Lib.hid hR; have HZ := Lib.hid hz
  clear hx hb h h' hR hx1 hbE hh2 hz
  cases hg : mapV t f && inB k 1 6 with
  | false =>
    have HV : Hid (vvB t f k [] = false) := vv_no fun kn e hm h1 h6 => by
      subst e
      rw [mapV_iff.2 hm, inB_true (by omega) (by omega)] at hg
      exact absurd hg (by decide)
    have HF : Hid (trvR t f k = (false, [])) := by
      rw [Hid, trvR, if_neg (fun h => by
        obtain ⟨kn, e, hm, h1, h6, _⟩ := cvB_iff.1 h
        subst e
        rw [mapV_iff.2 hm, inB_true (by omega) (by omega)] at hg
        exact absurd hg (by decide))]
    obtain ⟨rfl, rfl⟩ : ok = false ∧ ys = [] := by have := HR.out; rw [HF.out] at this; simpa [eq_comm] using this
    have HG := Lib.hid hg; clear hg
    go_enter Try.func48, Try.ntmps48
    go_wp2_with fail
    clear c0' c1'
    go_loopw [6, 7] (fun ov ev wr => ov = .slice (some ⟨W0.heap.size, 0, none⟩) 0 0 ∧ ev = .int .i64 0 ∧ Hid (OwnSS wr (w.heap.size + 1) (w.heap.size + 1) (.slice (some ⟨W0.heap.size, 0, none⟩) 0 0) []) ∧ Hid (Below w.heap.size w wr) ∧ Hid (Box wr w.heap.size 29 (.slice A n c) (.slice A' n' c'))) (fun _ _ _ => 0)
    case atStart => exact ⟨rfl, rfl, HOE, HB, HX⟩
    case round =>
      clear HOE HB HX
      obtain ⟨rfl, rfl, ho, hb, hbx⟩ := hrel
      have c0 := hbx.out.cell0
      have c1 := hbx.out.cell1
      by_cases hz2 : h2 = 0
      · have hd0 : decide (0 < h2) = false := by simp; omega
        have HZ2 := Lib.hid hz2; clear hz2
        go_wp2_with (go_at_call 16; refine (spec_vvB _ A A' n n' c c' t f (H.out.below hb.out) (H'.out.below hb.out) hn hn' k _ 0 0 [] (ho.out.rd rfl) (by omega) (by simp [total]) HV.out).mono ?_; rintro e w2 ⟨rfl, b⟩; have HB2 := Lib.hid (hb.out.trans (b.mono hb.out.size)); have hws2 := b.size; clear b c0 c1)
        go_ret2
        have hw2 := HB2.out.size
        exact ⟨_, rfl, OwnSS.empty hw2, HB2.out.alloc hw2 _⟩
      · have hd0 : decide (0 < h2) = true := by simp; omega
        have HZ2 := Lib.hid hz2; clear hz2
        cases hv : mapV t f with
        | false =>
          have HMV := Lib.hid hv; clear hv
          go_wp2_with (first
            | (go_at_call 51; refine (spec_mapV wr A A' n n' c c' t f (H.out.below hb.out) (H'.out.below hb.out) hn hn' HMV.out).mono ?_; rintro e w1 ⟨rfl, b⟩; have HB1 := Lib.hid (hb.out.trans (b.mono hb.out.size)); have HO1 := Lib.hid (ho.out.below b); have hx1 := hbx.out.below b; have d0 := hx1.cell0; have d1 := hx1.cell1; clear b c0 c1 hx1)
            | (go_at_call 16; refine (spec_vvB _ A A' n n' c c' t f (H.out.below HB1.out) (H'.out.below HB1.out) hn hn' k _ 0 0 [] (HO1.out.rd rfl) (by omega) (by simp [total]) HV.out).mono ?_; rintro e w2 ⟨rfl, b⟩; have HB2 := Lib.hid (HB1.out.trans (b.mono HB1.out.size)); clear b d0 d1))
          go_ret2
          have hw2 := HB2.out.size
          exact ⟨_, rfl, OwnSS.empty hw2, HB2.out.alloc hw2 _⟩
        | true =>
          have hi : inB k 1 6 = false := by have := HG.out; rw [hv, Bool.true_and] at this; exact this
          have HMV := Lib.hid hv; have HI := Lib.hid hi; clear hv hi
          go_wp2_with (first
            | (go_at_call 51; refine (spec_mapV wr A A' n n' c c' t f (H.out.below hb.out) (H'.out.below hb.out) hn hn' HMV.out).mono ?_; rintro e w1 ⟨rfl, b⟩; have HB1 := Lib.hid (hb.out.trans (b.mono hb.out.size)); have HO1 := Lib.hid (ho.out.below b); have hx1 := hbx.out.below b; have d0 := hx1.cell0; have d1 := hx1.cell1; clear b c0 c1 hx1)
            | (go_at_call 52; refine (l6In_any k 1 6 _).mono ?_; rintro e w2 ⟨rfl, rfl⟩; rw [HI.out])
            | (go_at_call 16; refine (spec_vvB _ A A' n n' c c' t f (H.out.below HB1.out) (H'.out.below HB1.out) hn hn' k _ 0 0 [] (HO1.out.rd rfl) (by omega) (by simp [total]) HV.out).mono ?_; rintro e w2 ⟨rfl, b⟩; have HB2 := Lib.hid (HB1.out.trans (b.mono HB1.out.size)); clear b d0 d1))
          go_ret2
          have hw2 := HB2.out.size
          exact ⟨_, rfl, OwnSS.empty hw2, HB2.out.alloc hw2 _⟩
  | true =>
    obtain ⟨hv, hi⟩ : mapV t f = true ∧ inB k 1 6 = true := by simpa [Bool.and_eq_true] using hg
    obtain ⟨hk1, hk6⟩ : 1 ≤ k ∧ k ≤ 6 := by simpa [inB] using hi
    obtain ⟨kn, rfl⟩ : ∃ kn : Nat, k = kn := ⟨k.toNat, by omega⟩
    have hm := mapV_iff.1 hv
    have hn2 : n' = n := by rw [← H.out.1, ← H'.out.1]; exact hm.len.symm
    subst hn2
    have hn12 : n' ≤ 12 := by rw [← H.out.1]; exact hm.turn.2.1
    have hh6 : h2 ≤ 6 := by have := HHH.out; omega
    obtain ⟨q, hq⟩ : ∃ q, vvB t f (kn : Int) (List.replicate h2 (marks 0 kn)) = q := ⟨_, rfl⟩
    have HE : Hid (trvR t f (kn : Int) = if q = true then (true, List.replicate h2 (marks 0 kn)) else (false, [])) := by
      rw [Hid, trvR, H'.out.1, HHH.out, Int.toNat_natCast]
      by_cases hc : cvB t f (kn : Int) = true
      · obtain ⟨k', e, _, _, _, hf⟩ := cvB_iff.1 hc
        obtain rfl : kn = k' := by omega
        have := vvB_true (trv_volt hm (k := kn) (by omega) (by omega) hf)
        rw [H'.out.1, HHH.out, hq] at this
        rw [if_pos hc, if_pos this]
      · rw [if_neg hc, if_neg]
        intro e
        rw [e] at hq
        obtain ⟨k', e', hv'⟩ := Volt_of hq
        exact hc (by rw [e']; exact hv'.cv)
    have HMV := Lib.hid hv; have HI := Lib.hid hi; have HQ := Lib.hid hq
    clear hv hi hg hm hq
    go_enter Try.func48, Try.ntmps48
    go_wp2_with fail
    clear c0' c1'
    go_loopw [6, 7] (fun ov ev wr => ∃ e : Nat, e ≤ h2 ∧ ev = .int .i64 e ∧ Hid (OwnSS wr (w.heap.size + 1) wr.heap.size ov (List.replicate e (marks 0 kn))) ∧ Hid (Below w.heap.size w wr) ∧ Hid (Box wr w.heap.size 29 (.slice A n' c) (.slice A' n' c'))) (fun _ ev _ => h2 - (intOf ev).toNat)
    case atStart => exact ⟨0, Nat.zero_le _, rfl, HOE.out.more (by simp; have := HZ.out; omega), HB, HX⟩
    case round =>
      clear HOE HB HX
      obtain ⟨e, he, rfl, ho, hb, hbx⟩ := hrel
      have c0 := hbx.out.cell0
      have c1 := hbx.out.cell1
      have hwr := hbx.out.lt
      by_cases hlt : e < h2
      · go_wp2_with (first
          | (go_at_call 51; refine (spec_mapV wr A A' n' n' c c' t f (H.out.below hb.out) (H'.out.below hb.out) hn hn' HMV.out).mono ?_; rintro e w1 ⟨rfl, b⟩; have HB1 := Lib.hid (hb.out.trans (b.mono hb.out.size)); have ho1 := ho.out.below b; have HX1 := Lib.hid (hbx.out.below b); have hws1 := b.size; have HO1 := Lib.hid (ho1.more hws1); clear b c0 c1 ho1)
          | (go_at_call 52; refine (l6In_any (kn : Int) 1 6 _).mono ?_; rintro e w2 ⟨rfl, rfl⟩; rw [HI.out])
          | (go_at_call 80; refine (l1Same_any kn _ (by omega)).mono ?_; rintro e w2 ⟨u, rfl, o, b⟩; obtain ⟨Au, cu, rfl, -, -⟩ := o.form' (marks_len 0 kn); obtain ⟨vs, hop⟩ := (HO1.out.below b).opn; have HOP := Lib.hid hop; have HROW := Lib.hid (hop.row (List.length_replicate ..)); have HU := Lib.hid o; have HB2 := Lib.hid b; have hws2 := b.size; clear o b hop)
          | (at_builtin; refine wpList_append_own _ rfl _ _ 25 rfl (w.heap.size + 1) 22 i1 (.slice none 0 0) 1 24 Try.underlying25 hinf1 hy0 hy1 hy2 rfl (by decide) _ _ _ rfl (HROW.out.alloc _) ⟨w2.heap.size, 0, none⟩ 1 1 [.slice Au kn cu] rfl rfl (cell_one_new _ _ _) (by intro u hu; simp at hu; subst hu; rfl) (by unfold maxLen; omega) (by omega) (by simp; omega) ?_; intro v3 w3 hown3 hgrow3 _; have HO3 := Lib.hid hown3; have HG3 := Lib.hid hgrow3; clear hown3 hgrow3))
        go_roundw
        case rel =>
          have ha := app_row (by omega) (List.length_replicate ..) HOP.out HB2.out HU.out HO3.out HG3.out
          exact ⟨e + 1, by omega, by go_num, by rw [Hid, rep_snoc]; exact ha.1, HB1.out.trans (ha.2.mono (Nat.le_succ _)), HX1.out.over ha.2 (Nat.lt_succ_self _)⟩
        case measure => simp [intOf]; omega
      · obtain rfl : e = h2 := by omega
        have HTOT : Hid (total (List.replicate e (marks 0 kn)) ≤ 1048576) := by have := rep_total (h := e) (k := kn) hh6 (by omega); rw [Hid]; omega
        obtain ⟨Ao, co, rfl, -⟩ := ho.out.form (List.length_replicate ..)
        cases q with
        | false =>
          obtain ⟨rfl, rfl⟩ : ok = false ∧ ys = [] := by have := HR.out; rw [HE.out] at this; simpa [eq_comm] using this
          go_wp2_with (go_at_call 16; refine (spec_vvB _ A A' n' n' c c' t f (H.out.below hb.out) (H'.out.below hb.out) hn hn' (kn : Int) Ao e co _ (ho.out.rd (List.length_replicate ..)) (by omega) HTOT.out HQ.out).mono ?_; rintro e w2 ⟨rfl, b⟩; have HB2 := Lib.hid (hb.out.trans (b.mono hb.out.size)); clear b c0 c1)
          go_ret2
          have hw2 := HB2.out.size
          exact ⟨_, rfl, OwnSS.empty hw2, HB2.out.alloc hw2 _⟩
        | true =>
          obtain ⟨rfl, rfl⟩ : ok = true ∧ ys = List.replicate e (marks 0 kn) := by have := HR.out; rw [HE.out] at this; simpa [eq_comm] using this
          go_wp2_with (go_at_call 16; refine (spec_vvB _ A A' n' n' c c' t f (H.out.below hb.out) (H'.out.below hb.out) hn hn' (kn : Int) Ao e co _ (ho.out.rd (List.length_replicate ..)) (by omega) HTOT.out HQ.out).mono ?_; rintro e w2 ⟨rfl, b⟩; have HB2 := Lib.hid (hb.out.trans (b.mono hb.out.size)); have HO2 := Lib.hid ((ho.out.below b).more b.size); clear b c0 c1)
          go_ret2
          exact ⟨_, rfl, HO2.out.mono (Nat.le_succ _), HB2.out⟩

set_option maxRecDepth 20000 in
set_option maxHeartbeats 3200000 in
theorem impl_trvR (w : World) (A A' : Option Addr) (n n' c c' : Nat) (t f : List Int) (h : Rd w A n t) (h' : Rd w A' n' f) (hn : n ≤ 1048576) (hn' : n' ≤ 1048576) (k : Int) {ok : Bool} {ys : List (List Int)} (hR : trvR t f k = (ok, ys)) :
    Calls Try.prog 49 #[.agg #[.slice A n c, .slice A' n' c'], .int .i64 k] w fun e w' => ∃ v, e = .returned (.tuple #[v, .bool ok]) ∧ OwnSS w' w.heap.size w'.heap.size v ys ∧ Below w.heap.size w w' := by
  obtain ⟨i1, hinf1, hy0, hy1, hy2⟩ := info_parts info_slice
  obtain ⟨W0, hW0, hx, hb, hz⟩ := Box.local_ w 29 (.slice A n c) (.slice A' n' c')
  have HX := Lib.hid hx; have HB := Lib.hid hb; have H := Lib.hid h; have H' := Lib.hid h'; have HR := Lib.hid hR
  clear hx hb h h' hR hz
  cases hg : cvB t f k with
  | false =>
    have HF : Hid (trvR t f k = (false, [])) := by rw [Hid, trvR, if_neg (by rw [hg]; decide)]
    obtain ⟨rfl, rfl⟩ : ok = false ∧ ys = [] := by have := HR.out; rw [HF.out] at this; simpa [eq_comm] using this
    have HG := Lib.hid hg; clear hg
    go_enter Try.func49, Try.ntmps49
    go_wp2_with (go_at_call 87; refine (coverable_any w.heap.size A A' n n' c c' t f W0 HX.out (H.out.below HB.out) (H'.out.below HB.out) hn hn' k HG.out).mono ?_; rintro e w1 ⟨rfl, b⟩; have HB1 := Lib.hid (HB.out.trans (b.mono HB.out.size)); clear b)
    go_ret2
    exact ⟨_, rfl, OwnSS.nil_, HB1.out⟩
  | true =>
    obtain ⟨kn, rfl, hm, hk1, hk6, hf⟩ := cvB_iff.1 hg
    have hn12 : n' ≤ 12 := by rw [← H'.out.1]; exact hm.flip.2.1
    obtain ⟨h2, hh2⟩ : ∃ h2, n' / 2 = h2 := ⟨_, rfl⟩
    have hh6 : h2 ≤ 6 := by omega
    have HF : Hid (trvR t f (kn : Int) = (true, List.replicate h2 (marks 0 kn))) := by rw [Hid, trvR, if_pos hg, H'.out.1, hh2, Int.toNat_natCast]
    obtain ⟨rfl, rfl⟩ : ok = true ∧ ys = List.replicate h2 (marks 0 kn) := by have := HR.out; rw [HF.out] at this; simpa [eq_comm] using this
    have HG := Lib.hid hg; have HHH := Lib.hid hh2; clear hg hm hf hh2
    go_enter Try.func49, Try.ntmps49
    go_wp2_with (first
      | (go_at_call 87; refine (coverable_any w.heap.size A A' n n' c c' t f W0 HX.out (H.out.below HB.out) (H'.out.below HB.out) hn hn' (kn : Int) HG.out).mono ?_; rintro e w1 ⟨rfl, b⟩; have HX1 := Lib.hid (HX.out.below b); have HB1 := Lib.hid (HB.out.trans (b.mono HB.out.size)); clear b)
      | (go_at_call 88; refine (edgeCount_any w.heap.size A A' n n' c c' h2 w1 HX1.out hn' HHH.out).mono ?_; rintro e w2 ⟨rfl, rfl⟩))
    go_loopw [6, 11] (fun ov ev wr => ∃ e : Nat, e ≤ h2 ∧ ev = .int .i64 e ∧ Hid (OwnSS wr w.heap.size wr.heap.size ov (List.replicate e (marks 0 kn))) ∧ Hid (Below w.heap.size w wr)) (fun _ ev _ => h2 - (intOf ev).toNat)
    case atStart => exact ⟨0, Nat.zero_le _, rfl, OwnSS.nil_, HB1⟩
    case round =>
      clear HB1 HX1
      obtain ⟨e, he, rfl, ho, hb⟩ := hrel
      have hwr := hb.out.size
      by_cases hlt : e < h2
      · go_wp2_with (first
          | (go_at_call 84; refine (stillPerm_any kn _ (by omega)).mono ?_; rintro e w2 ⟨u, rfl, o, b⟩; obtain ⟨Au, cu, rfl, -, -⟩ := o.form' (marks_len 0 kn); obtain ⟨vs, hop⟩ := (ho.out.below b).opn; have HOP := Lib.hid hop; have HROW := Lib.hid (hop.row (List.length_replicate ..)); have HU := Lib.hid o; have HB2 := Lib.hid b; have hws2 := b.size; clear o b hop)
          | (at_builtin; refine wpList_append_own _ rfl _ _ 25 rfl w.heap.size 22 i1 (.slice none 0 0) 1 24 Try.underlying25 hinf1 hy0 hy1 hy2 rfl (by decide) _ _ _ rfl (HROW.out.alloc _) ⟨w2.heap.size, 0, none⟩ 1 1 [.slice Au kn cu] rfl rfl (cell_one_new _ _ _) (by intro u hu; simp at hu; subst hu; rfl) (by unfold maxLen; omega) (by omega) (by simp; omega) ?_; intro v3 w3 hown3 hgrow3 _; have HO3 := Lib.hid hown3; have HG3 := Lib.hid hgrow3; clear hown3 hgrow3))
        go_roundw
        case rel =>
          have ha := app_row hwr (List.length_replicate ..) HOP.out HB2.out HU.out HO3.out HG3.out
          exact ⟨e + 1, by omega, by go_num, by rw [Hid, rep_snoc]; exact ha.1, hb.out.trans ha.2⟩
        case measure => simp [intOf]; omega
      · obtain rfl : e = h2 := by omega
        go_wp2_with fail
        go_ret2
        exact ⟨_, rfl, ho.out, hb.out⟩

end Go.Proofs.Ythcdhkelpepeeaa
