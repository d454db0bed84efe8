/-
  MapForm: the model's and the program's.
  MapForm's contracts in the form that the laws ask: the check of the dart, then the form.
-/
import Derived.Test.YtakckkmhhedfpaaNamesS
namespace Go.Proofs.Ytakckkmhhedfpaa
open Go.RowKit

theorem namesL_vld {t f : List Int} {root : Nat} (hm : IsMap t f) (hr : root < t.length) : Vld (namesL t f root) ∧ (namesL t f root).length = t.length := by
  have key : ∀ (m k : Nat) (nm q : List Int), t.length + 1 - k = m → Naming t f root k nm q → Vld (namesL t f root) ∧ (namesL t f root).length = t.length := by
    intro m
    induction m with
    | zero =>
      intro k nm q hk h
      have := h.le
      have := h.named.few
      omega
    | succ m ih =>
      intro k nm q hk h
      by_cases hlt : k < q.length
      · exact ih (k + 1) _ _ (by omega) (h.next hm.turn hm.flip hm.len hlt)
      · obtain ⟨e, hv⟩ := h.done hm hr hlt
        rw [e]
        exact ⟨hv, h.named.len⟩
  exact key _ 0 _ _ rfl (Naming.start hr)
def formT (t f : List Int) (root : Nat) : List Int := conjL t (namesL t f root)
def formF (t f : List Int) (root : Nat) : List Int := conjL f (namesL t f root)
def dartB (n : Nat) (r : Int) : Bool := decide (0 ≤ r ∧ r < n)
noncomputable def formR (t f : List Int) (r : Int) : Bool × List Int × List Int := if mapV t f = true ∧ dartB t.length r = true then (true, formT t f r.toNat, formF t f r.toNat) else (false, [], [])
theorem formT_len {t f : List Int} {root : Nat} (hm : IsMap t f) (hr : root < t.length) : (formT t f root).length = t.length := by rw [formT, conjL_len]; exact (namesL_vld hm hr).2
theorem formF_len {t f : List Int} {root : Nat} (hm : IsMap t f) (hr : root < t.length) : (formF t f root).length = t.length := by rw [formF, conjL_len]; exact (namesL_vld hm hr).2
theorem formR_len {t f yt yf : List Int} {r : Int} {ok : Bool} (h : formR t f r = (ok, yt, yf)) : yt.length ≤ 12 ∧ yf.length ≤ 12 := by
  unfold formR at h
  split at h
  · rename_i hb
    injection h with _ h; injection h with h1 h2
    have hm := mapV_iff.1 hb.1
    have hd : 0 ≤ r ∧ r < t.length := by simpa [dartB] using hb.2
    rw [← h1, ← h2, formT_len hm (by omega), formF_len hm (by omega)]; exact ⟨hm.turn.2.1, hm.turn.2.1⟩
  · injection h with _ h; injection h with h1 h2; rw [← h1, ← h2]; simp

set_option maxHeartbeats 1600000 in
theorem l2Form_any (w : World) (A A' : Option Addr) (n c c' root : Nat) (t f : List Int) (h : Rd w A n t) (h' : Rd w A' n f) (hm : IsMap t f) (hr : root < n) :
    Calls Try.prog 68 #[.agg #[.slice A n c, .slice A' n c'], .int .i64 root] w fun e w' => ∃ u u', e = .returned (.agg #[u, u']) ∧ OwnM w' w.heap.size u u' (formT t f root) (formF t f root) ∧ Below w.heap.size w w' := by
  have hn12 : n ≤ 12 := by rw [← h.1]; exact hm.turn.2.1
  have hnv := namesL_vld hm (root := root) (by rw [h.1]; exact hr)
  have HNL : Hid ((namesL t f root).length = n) := by rw [Hid, hnv.2, h.1]
  have HNV := Lib.hid hnv.1
  obtain ⟨W0, hW0, hx, hy, hbl, hz⟩ := two_boxes w 35 35 (.slice A n c) (.slice A' n c') (.slice none 0 0) (.slice none 0 0)
  have c0 := hx.cell0
  have c1 := hx.cell1
  have HX := Lib.hid hx; have HY := Lib.hid hy; have HB := Lib.hid hbl; have HZ := Lib.hid hz; have H := Lib.hid h; have H' := Lib.hid h'; have HM := Lib.hid hm; clear hx hy hbl hz h h' hm hnv
  go_enter Try.func68, Try.ntmps68
  go_wp2_with fail
  first | (go_region_with (first
    | (go_at_call 93; refine (l2Names_any A A' n c c' root t f _ ((H.out.below HB.out).drewN _) ((H'.out.below HB.out).drewN _) HM.out hr).mono ?_; rintro e w2 ⟨v, rfl, o, bl⟩; obtain ⟨A3, c3, rfl, r3, -⟩ := o.form' HNL.out; have BL := Lib.hid (Below.of_drewN bl); have HR3 := Lib.hid r3; have HB2 := Lib.hid (HB.out.trans (BL.out.mono HB.out.size)); have HX2 := Lib.hid (HX.out.below BL.out); have HY2 := Lib.hid (HY.out.below BL.out); have d0 := HX2.out.cell0; have d1 := HX2.out.cell1; clear o bl r3)
    | (go_at_call 92; refine (l2Rename_any _ A A' A3 n c c' c3 t f (namesL t f root) (H.out.below HB2.out) (H'.out.below HB2.out) HR3.out HM.out.turn HM.out.flip HNV.out).mono ?_; rintro e w3 ⟨u, u', rfl, o, bl⟩; obtain ⟨A4, c4, A5, c5, rfl, rfl, -, -⟩ := o.form ((conjL_len t _).trans HNL.out) ((conjL_len f _).trans HNL.out); have BL2 := Lib.hid bl; have HO2 := Lib.hid o; have HB3 := Lib.hid (HB2.out.trans (bl.mono HB2.out.size)); have HY3 := Lib.hid (HY2.out.below bl); have e0 := HY3.out.cell0; have e1 := HY3.out.cell1; have e2 := HY3.out.frozen 0; have e3 := HY3.out.frozen 1; clear o bl))) | fail
  all_goals
    have hs1 : W0.heap.size ≤ w2.heap.size := BL.out.size
    have hs2 := HZ.out
    obtain ⟨hq1, hq2⟩ := HY3.out.store2 (.slice A4 n c4) (.slice A5 n c5)
    have k0 := hq1.cell0
    have k1 := hq1.cell1
    have HD := Lib.hid (pair_done HO2.out.turn HO2.out.flip HO2.out.apart HB3.out hq2 (by omega) (by omega))
    clear hq1 hq2
    go_simp
    go_wp2
    refine bodyPost_ret (v := .agg #[.slice A4 n c4, .slice A5 n c5]) (by simp [results, Try.results68, go_sem, k0, k1]) rfl ⟨_, _, rfl, HD.out.1, HD.out.2⟩

set_option maxHeartbeats 1600000 in
theorem form_any (w : World) (x : Nat) (A A' : Option Addr) (n c c' root : Nat) (t f : List Int) (hx : Box2 w x A n c A' n c') (h : Rd w A n t) (h' : Rd w A' n f) (hm : IsMap t f) (hr : root < n) :
    Calls Try.prog 57 #[.pointer (some ⟨x, 0, none⟩), .int .i64 root] w fun e w' => ∃ u u', e = .returned (.agg #[u, u']) ∧ OwnM w' w.heap.size u u' (formT t f root) (formF t f root) ∧ Below w.heap.size w w' := by
  have hnv := namesL_vld hm (root := root) (by rw [h.1]; exact hr)
  have HNL : Hid ((namesL t f root).length = n) := by rw [Hid, hnv.2, h.1]
  have HNV := Lib.hid hnv.1
  obtain ⟨W0, hW0, hy, hbl, hz⟩ := Box.local_ w 35 (.slice none 0 0) (.slice none 0 0)
  have HX := Lib.hid (hx.below hbl); have HY := Lib.hid hy; have HB := Lib.hid hbl; have HZ := Lib.hid hz; have H := Lib.hid h; have H' := Lib.hid h'; have HM := Lib.hid hm; clear hx hy hbl hz h h' hm hnv
  go_enter Try.func57, Try.ntmps57
  go_wp2_with fail
  refine (names_any x A A' n c c' root t f W0 HX.out (H.out.below HB.out) (H'.out.below HB.out) HM.out hr).mono ?_
  rintro e w2 ⟨v, rfl, o, bl⟩
  obtain ⟨A3, c3, rfl, r3, -⟩ := o.form' HNL.out
  have HR3 := Lib.hid r3; have HX2 := Lib.hid (HX.out.below bl); have HY2 := Lib.hid (HY.out.below bl); have HB2 := Lib.hid (HB.out.trans (bl.mono HB.out.size)); have HZ2 := Lib.hid bl.size; clear o bl r3
  go_wp2_with fail
  refine (renamed_any w2 x A A' A3 n c c' c3 t f (namesL t f root) HX2.out (H.out.below HB2.out) (H'.out.below HB2.out) HR3.out HM.out.turn HM.out.flip HNV.out).mono ?_
  rintro e w3 ⟨u, u', rfl, o, bl⟩
  obtain ⟨A4, c4, A5, c5, rfl, rfl, -, -⟩ := o.form ((conjL_len t _).trans HNL.out) ((conjL_len f _).trans HNL.out)
  have hy := HY2.out.below bl
  have e0 := hy.cell0; have e1 := hy.cell1; have e2 := hy.frozen 0; have e3 := hy.frozen 1
  obtain ⟨hq1, hq2⟩ := hy.store2 (.slice A4 n c4) (.slice A5 n c5)
  have k0 := hq1.cell0; have k1 := hq1.cell1
  have hs1 := HZ2.out; have hs2 := HZ.out
  have HD := Lib.hid (pair_done o.turn o.flip o.apart (HB2.out.trans (bl.mono HB2.out.size)) hq2 (by omega) (by omega))
  clear hq1 hq2 o bl hy
  go_wp2_with fail
  exact bodyPost_ret (v := .agg #[.slice A4 n c4, .slice A5 n c5]) (by simp [results, Try.results57, go_sem, k0, k1]) rfl ⟨_, _, rfl, HD.out.1, HD.out.2⟩

end Go.Proofs.Ytakckkmhhedfpaa

namespace Go.Proofs.Ytakckkmhhedfpaa
open Go.RowKit

theorem dartB_in (n : Nat) (r : Int) : inB r 0 ((n : Int) - 1) = dartB n r := by
  by_cases h : 0 ≤ r ∧ r < n
  · rw [inB_true h.1 (by omega), dartB, decide_eq_true h]
  · rw [inB_false (fun e => h ⟨e.1, by omega⟩), dartB, decide_eq_false h]

set_option maxHeartbeats 1600000 in
theorem hasDart_lit (w : World) (x : Nat) (A A' : Option Addr) (n n' c c' : Nat) (hx : Box2 w x A n c A' n' c') (r : Int) {ok : Bool} (hR : dartB n r = ok) :
    Calls Try.prog 56 #[.pointer (some ⟨x, 0, none⟩), .int .i64 r] w fun e w' => e = .returned (.bool ok) ∧ w = w' := by
  have c0 := hx.cell0
  clear hx
  by_cases hr : 0 ≤ r
  · by_cases hr' : r < n
    · have hok : ok = true := by rw [← hR, dartB, decide_eq_true ⟨hr, hr'⟩]
      subst hok; clear hR
      go_enter Try.func56, Try.ntmps56
      go_wp2
      go_ret
      exact ⟨rfl, rfl⟩
    · have hok : ok = false := by rw [← hR, dartB, decide_eq_false (fun e => hr' e.2)]
      subst hok; clear hR
      go_enter Try.func56, Try.ntmps56
      go_wp2
      go_ret
      exact ⟨rfl, rfl⟩
  · have hok : ok = false := by rw [← hR, dartB, decide_eq_false (fun e => hr e.1)]
    subst hok; clear hR
    go_enter Try.func56, Try.ntmps56
    go_wp2
    go_ret
    exact ⟨rfl, rfl⟩

set_option maxHeartbeats 1600000 in
theorem impl_formR (w : World) (A A' : Option Addr) (n n' c c' : Nat) (t f : List Int) (h : Rd w A n t) (h' : Rd w A' n' f) (hn : n ≤ 1048576) (hn' : n' ≤ 1048576) (x : Int) (_hw : (Lit.int .i64 x).wf = true) {ok : Bool} {yt yf : List Int} (hR : formR t f x = (ok, yt, yf)) :
    Calls Try.prog 29 #[.agg #[.slice A n c, .slice A' n' c'], .int .i64 x] w fun e w' => ∃ u u', e = .returned (.tuple #[.agg #[u, u'], .bool ok]) ∧ OwnM w' w.heap.size u u' yt yf ∧ Below w.heap.size w w' := by

  obtain ⟨W0, hW0, hx, hy, hbl, hz⟩ := two_boxes w 35 35 (.slice A n c) (.slice A' n' c') (.slice none 0 0) (.slice none 0 0)
  have c0 := hx.cell0
  have c1 := hx.cell1
  have HX := Lib.hid hx; have HY := Lib.hid hy; have HB := Lib.hid hbl; have HZ := Lib.hid hz; have H := Lib.hid h; have H' := Lib.hid h'; clear hx hy hbl hz h h'
  by_cases hb : mapV t f = true ∧ dartB t.length x = true
  · have HB3 := Lib.hid hb; clear hb
    rw [formR, if_pos HB3.out] at hR
    simp only [Prod.mk.injEq] at hR
    obtain ⟨rfl, rfl, rfl⟩ := hR
    have hm := mapV_iff.1 HB3.out.1
    have hd : 0 ≤ x ∧ x < t.length := by have := HB3.out.2; rw [dartB] at this; exact of_decide_eq_true this
    rw [H.out.1] at hd
    obtain ⟨r, rfl⟩ := Int.eq_ofNat_of_zero_le hd.1
    have hr : r < n := by omega
    rw [Int.toNat_natCast]
    obtain rfl : n = n' := hm.same H.out.1 H'.out.1
    have hLT : (formT t f r).length = n := (formT_len hm (by rw [H.out.1]; exact hr)).trans H.out.1
    have hLF : (formF t f r).length = n := (formF_len hm (by rw [H.out.1]; exact hr)).trans H.out.1
    have HLT := Lib.hid hLT; have HLF := Lib.hid hLF; have HM := Lib.hid hm; clear hm hLT hLF hd
    have HE : Hid (mapV t f = true) := HB3.out.1
    have HE2 : Hid (dartB n (r : Int) = true) := by have h3 := HB3.out.2; rw [H.out.1] at h3; exact h3
    go_enter Try.func29, Try.ntmps29
    go_wp2_with fail
    refine (valid_lit w.heap.size A A' n n c c' t f W0 HX.out (H.out.below HB.out) (H'.out.below HB.out) hn hn' HE.out).mono ?_
    rintro e w1 ⟨rfl, bl⟩
    have hx := HX.out.below bl
    have c0 := hx.cell0; have c1 := hx.cell1
    have HX1 := Lib.hid hx; have HY1 := Lib.hid (HY.out.below bl); have HB1 := Lib.hid (HB.out.trans (bl.mono HB.out.size)); have HZ1 := Lib.hid bl.size; clear bl hx
    go_wp2_with fail
    refine (hasDart_lit w1 w.heap.size A A' n n c c' HX1.out _ HE2.out).mono ?_
    rintro e w' ⟨rfl, rfl⟩
    go_wp2_with fail
    refine (form_any w1 w.heap.size A A' n c c' r t f HX1.out (H.out.below HB1.out) (H'.out.below HB1.out) HM.out hr).mono ?_
    rintro e w2 ⟨u, u', rfl, o, bl⟩
    obtain ⟨A3, c3, A4, c4, rfl, rfl, -, -⟩ := o.form HLT.out HLF.out
    have hy := HY1.out.below bl
    have e0 := hy.cell0; have e1 := hy.cell1; have e2 := hy.frozen 0; have e3 := hy.frozen 1
    obtain ⟨hq1, hq2⟩ := hy.store2 (.slice A3 n c3) (.slice A4 n c4)
    have k0 := hq1.cell0; have k1 := hq1.cell1
    have hs1 := HZ1.out; have hs2 := HZ.out; have hs3 := bl.size
    have HD := Lib.hid (pair_done o.turn o.flip o.apart (HB1.out.trans (bl.mono HB1.out.size)) hq2 (by omega) (by omega))
    clear hq1 hq2 o bl hy
    go_wp2_with fail
    exact bodyPost_ret (v := .tuple #[.agg #[.slice A3 n c3, .slice A4 n c4], .bool true]) (by simp [results, Try.results29, go_sem, k0, k1]) rfl ⟨_, _, rfl, HD.out.1, HD.out.2⟩
  · rw [formR, if_neg hb] at hR
    simp only [Prod.mk.injEq] at hR
    obtain ⟨rfl, rfl, rfl⟩ := hR
    by_cases hv : mapV t f = true
    · have HE : Hid (mapV t f = true) := hv
      have HE2 : Hid (dartB n x = false) := by rw [Hid, ← H.out.1]; exact Bool.eq_false_iff.2 (fun e => hb ⟨hv, e⟩)
      clear hb hv
      go_enter Try.func29, Try.ntmps29
      go_wp2_with fail
      refine (valid_lit w.heap.size A A' n n' c c' t f W0 HX.out (H.out.below HB.out) (H'.out.below HB.out) hn hn' HE.out).mono ?_
      rintro e w1 ⟨rfl, bl⟩
      have hx := HX.out.below bl
      have c0 := hx.cell0; have c1 := hx.cell1
      have HX1 := Lib.hid hx; have HY1 := Lib.hid (HY.out.below bl); have HB1 := Lib.hid (HB.out.trans (bl.mono HB.out.size)); have HZ1 := Lib.hid bl.size; clear bl hx
      go_wp2_with fail
      refine (hasDart_lit w1 w.heap.size A A' n n' c c' HX1.out _ HE2.out).mono ?_
      rintro e w' ⟨rfl, rfl⟩
      have hy := HY1.out
      have e0 := hy.cell0; have e1 := hy.cell1; have e2 := hy.frozen 0; have e3 := hy.frozen 1
      obtain ⟨hq1, hq2⟩ := hy.store2 (.slice none 0 0) (.slice none 0 0)
      have k0 := hq1.cell0; have k1 := hq1.cell1
      have HD : Hid (Below w.heap.size w ((w1.setCell ⟨w.heap.size + 1, 0, none⟩ (.slice none 0 0)).setCell ⟨w.heap.size + 1, 1, none⟩ (.slice none 0 0))) := HB1.out.grown hq2 (by have := HB1.out.size; omega) (fun k hk => by cases hk; omega)
      clear hy hq1 hq2
      go_wp2_with fail
      exact bodyPost_ret (v := .tuple #[.agg #[.slice none 0 0, .slice none 0 0], .bool false]) (by simp [results, Try.results29, go_sem, k0, k1]) rfl ⟨_, _, rfl, OwnM.nil_ _ _, HD.out⟩
    · have HE : Hid (mapV t f = false) := Bool.eq_false_iff.2 hv
      clear hb hv
      go_enter Try.func29, Try.ntmps29
      go_wp2_with fail
      refine (valid_lit w.heap.size A A' n n' c c' t f W0 HX.out (H.out.below HB.out) (H'.out.below HB.out) hn hn' HE.out).mono ?_
      rintro e w1 ⟨rfl, bl⟩
      have hx := HX.out.below bl
      have c0 := hx.cell0; have c1 := hx.cell1
      have HX1 := Lib.hid hx; have HY1 := Lib.hid (HY.out.below bl); have HB1 := Lib.hid (HB.out.trans (bl.mono HB.out.size)); have HZ1 := Lib.hid bl.size; clear bl hx
      have hy := HY1.out
      have e0 := hy.cell0; have e1 := hy.cell1; have e2 := hy.frozen 0; have e3 := hy.frozen 1
      obtain ⟨hq1, hq2⟩ := hy.store2 (.slice none 0 0) (.slice none 0 0)
      have k0 := hq1.cell0; have k1 := hq1.cell1
      have HD : Hid (Below w.heap.size w ((w1.setCell ⟨w.heap.size + 1, 0, none⟩ (.slice none 0 0)).setCell ⟨w.heap.size + 1, 1, none⟩ (.slice none 0 0))) := HB1.out.grown hq2 (by have := HB1.out.size; omega) (fun k hk => by cases hk; omega)
      clear hy hq1 hq2
      go_wp2_with fail
      exact bodyPost_ret (v := .tuple #[.agg #[.slice none 0 0, .slice none 0 0], .bool false]) (by simp [results, Try.results29, go_sem, k0, k1]) rfl ⟨_, _, rfl, OwnM.nil_ _ _, HD.out⟩

end Go.Proofs.Ytakckkmhhedfpaa
