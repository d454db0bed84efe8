/-
  MapForm: the model's and the program's.
  MapForm's contracts in the form that the laws ask: the check of the dart, then the form.
-/
import Derived.Test.YtakckkmhhedfpaaGreatNamesS
namespace Go.Proofs.YtakckkmhhedfpaaGreat
open Go.RowKit

theorem namesL_vld {t f : List Int} {root : Nat} (hm : IsMap t f) (hr : root < t.length) : Vld (namesL t f root) ∧ (namesL t f root).length = t.length := by
  have key : ∀ (m k : Nat) (nm q : List Int), t.length + 1 - k = m → Naming t f root k nm q → Vld (namesL t f root) ∧ (namesL t f root).length = t.length := by
    intro m
    induction m with
    | zero =>
      intro k nm q hk h
      have := h.le
      have := h.named.few
      omega
    | succ m ih =>
      intro k nm q hk h
      by_cases hlt : k < q.length
      · exact ih (k + 1) _ _ (by omega) (h.next hm.turn hm.flip hm.len hlt)
      · obtain ⟨e, hv⟩ := h.done hm hr hlt
        rw [e]
        exact ⟨hv, h.named.len⟩
  exact key _ 0 _ _ rfl (Naming.start hr)
def formT (t f : List Int) (root : Nat) : List Int := conjL t (namesL t f root)
def formF (t f : List Int) (root : Nat) : List Int := conjL f (namesL t f root)
def dartB (n : Nat) (r : Int) : Bool := decide (0 ≤ r ∧ r < n)
noncomputable def formR (t f : List Int) (r : Int) : Bool × List Int × List Int := if mapV t f = true ∧ dartB t.length r = true then (true, formT t f r.toNat, formF t f r.toNat) else (false, [], [])
theorem formT_len {t f : List Int} {root : Nat} (hm : IsMap t f) (hr : root < t.length) : (formT t f root).length = t.length := by rw [formT, conjL_len]; exact (namesL_vld hm hr).2
theorem formF_len {t f : List Int} {root : Nat} (hm : IsMap t f) (hr : root < t.length) : (formF t f root).length = t.length := by rw [formF, conjL_len]; exact (namesL_vld hm hr).2
theorem formR_len {t f yt yf : List Int} {r : Int} {ok : Bool} (h : formR t f r = (ok, yt, yf)) : yt.length ≤ 12 ∧ yf.length ≤ 12 := by
  unfold formR at h
  split at h
  · rename_i hb
    injection h with _ h; injection h with h1 h2
    have hm := mapV_iff.1 hb.1
    have hd : 0 ≤ r ∧ r < t.length := by simpa [dartB] using hb.2
    rw [← h1, ← h2, formT_len hm (by omega), formF_len hm (by omega)]; exact ⟨hm.turn.2.1, hm.turn.2.1⟩
  · injection h with _ h; injection h with h1 h2; rw [← h1, ← h2]; simp

set_option maxHeartbeats 1600000 in
theorem l2Form_any (w : World) (A A' : Option Addr) (n c c' root : Nat) (t f : List Int) (h : Rd w A n t) (h' : Rd w A' n f) (hm : IsMap t f) (hr : root < n) :
    Calls Tryz.prog 31 #[.agg #[.slice A n c, .slice A' n c'], .int .i64 root] w fun e w' => ∃ u u', e = .returned (.agg #[u, u']) ∧ OwnM w' w.heap.size u u' (formT t f root) (formF t f root) ∧ Below w.heap.size w w' := by
  have hn12 : n ≤ 12 := by rw [← h.1]; exact hm.turn.2.1
  have hnv := namesL_vld hm (root := root) (by rw [h.1]; exact hr)
  have HNL : Hid ((namesL t f root).length = n) := by rw [Hid, hnv.2, h.1]
  have HNV := Lib.hid hnv.1
  obtain ⟨W0, hW0, hx, hy, hbl, hz⟩ := two_boxes w 32 32 (.slice A n c) (.slice A' n c') (.slice none 0 0) (.slice none 0 0)
  have c0 := hx.cell0
  have c1 := hx.cell1
  have HX := Lib.hid hx; have HY := Lib.hid hy; have HB := Lib.hid hbl; have HZ := Lib.hid hz; have H := Lib.hid h; have H' := Lib.hid h'; have HM := Lib.hid hm; clear hx hy hbl hz h h' hm hnv
  go_enter Tryz.func31, Tryz.ntmps31
  go_wp2_with fail
  first | (go_region_with (first
    | (go_at_call 54; refine (l2Names_any A A' n c c' root t f _ ((H.out.below HB.out).drewN _) ((H'.out.below HB.out).drewN _) HM.out hr).mono ?_; rintro e w2 ⟨v, rfl, o, bl⟩; obtain ⟨A3, c3, rfl, r3, -⟩ := o.form' HNL.out; have BL := Lib.hid (Below.of_drewN bl); have HR3 := Lib.hid r3; have HB2 := Lib.hid (HB.out.trans (BL.out.mono HB.out.size)); have HX2 := Lib.hid (HX.out.below BL.out); have HY2 := Lib.hid (HY.out.below BL.out); have d0 := HX2.out.cell0; have d1 := HX2.out.cell1; clear o bl r3)
    | (go_at_call 53; refine (l2Rename_any _ A A' A3 n c c' c3 t f (namesL t f root) (H.out.below HB2.out) (H'.out.below HB2.out) HR3.out HM.out.turn HM.out.flip HNV.out).mono ?_; rintro e w3 ⟨u, u', rfl, o, bl⟩; obtain ⟨A4, c4, A5, c5, rfl, rfl, -, -⟩ := o.form ((conjL_len t _).trans HNL.out) ((conjL_len f _).trans HNL.out); have BL2 := Lib.hid bl; have HO2 := Lib.hid o; have HB3 := Lib.hid (HB2.out.trans (bl.mono HB2.out.size)); have HY3 := Lib.hid (HY2.out.below bl); have e0 := HY3.out.cell0; have e1 := HY3.out.cell1; have e2 := HY3.out.frozen 0; have e3 := HY3.out.frozen 1; clear o bl))) | fail
  all_goals
    have hs1 : W0.heap.size ≤ w2.heap.size := BL.out.size
    have hs2 := HZ.out
    obtain ⟨hq1, hq2⟩ := HY3.out.store2 (.slice A4 n c4) (.slice A5 n c5)
    have k0 := hq1.cell0
    have k1 := hq1.cell1
    have HD := Lib.hid (pair_done HO2.out.turn HO2.out.flip HO2.out.apart HB3.out hq2 (by omega) (by omega))
    clear hq1 hq2
    go_simp
    go_wp2
    refine bodyPost_ret (v := .agg #[.slice A4 n c4, .slice A5 n c5]) (by simp [results, Tryz.results31, go_sem, k0, k1]) rfl ⟨_, _, rfl, HD.out.1, HD.out.2⟩

set_option maxHeartbeats 1600000 in
theorem form_any (w : World) (x : Nat) (A A' : Option Addr) (n c c' root : Nat) (t f : List Int) (hx : Box2 w x A n c A' n c') (h : Rd w A n t) (h' : Rd w A' n f) (hm : IsMap t f) (hr : root < n) :
    Calls Tryz.prog 24 #[.pointer (some ⟨x, 0, none⟩), .int .i64 root] w fun e w' => ∃ u u', e = .returned (.agg #[u, u']) ∧ OwnM w' w.heap.size u u' (formT t f root) (formF t f root) ∧ Below w.heap.size w w' := by
  have hnv := namesL_vld hm (root := root) (by rw [h.1]; exact hr)
  have HNL : Hid ((namesL t f root).length = n) := by rw [Hid, hnv.2, h.1]
  have HNV := Lib.hid hnv.1
  obtain ⟨W0, hW0, hy, hbl, hz⟩ := Box.local_ w 32 (.slice none 0 0) (.slice none 0 0)
  have HX := Lib.hid (hx.below hbl); have HY := Lib.hid hy; have HB := Lib.hid hbl; have HZ := Lib.hid hz; have H := Lib.hid h; have H' := Lib.hid h'; have HM := Lib.hid hm; clear hx hy hbl hz h h' hm hnv
  go_enter Tryz.func24, Tryz.ntmps24
  go_wp2_with fail
  refine (names_any x A A' n c c' root t f W0 HX.out (H.out.below HB.out) (H'.out.below HB.out) HM.out hr).mono ?_
  rintro e w2 ⟨v, rfl, o, bl⟩
  obtain ⟨A3, c3, rfl, r3, -⟩ := o.form' HNL.out
  have HR3 := Lib.hid r3; have HX2 := Lib.hid (HX.out.below bl); have HY2 := Lib.hid (HY.out.below bl); have HB2 := Lib.hid (HB.out.trans (bl.mono HB.out.size)); have HZ2 := Lib.hid bl.size; clear o bl r3
  go_wp2_with fail
  refine (renamed_any w2 x A A' A3 n c c' c3 t f (namesL t f root) HX2.out (H.out.below HB2.out) (H'.out.below HB2.out) HR3.out HM.out.turn HM.out.flip HNV.out).mono ?_
  rintro e w3 ⟨u, u', rfl, o, bl⟩
  obtain ⟨A4, c4, A5, c5, rfl, rfl, -, -⟩ := o.form ((conjL_len t _).trans HNL.out) ((conjL_len f _).trans HNL.out)
  have hy := HY2.out.below bl
  have e0 := hy.cell0; have e1 := hy.cell1; have e2 := hy.frozen 0; have e3 := hy.frozen 1
  obtain ⟨hq1, hq2⟩ := hy.store2 (.slice A4 n c4) (.slice A5 n c5)
  have k0 := hq1.cell0; have k1 := hq1.cell1
  have hs1 := HZ2.out; have hs2 := HZ.out
  have HD := Lib.hid (pair_done o.turn o.flip o.apart (HB2.out.trans (bl.mono HB2.out.size)) hq2 (by omega) (by omega))
  clear hq1 hq2 o bl hy
  go_wp2_with fail
  exact bodyPost_ret (v := .agg #[.slice A4 n c4, .slice A5 n c5]) (by simp [results, Tryz.results24, go_sem, k0, k1]) rfl ⟨_, _, rfl, HD.out.1, HD.out.2⟩

end Go.Proofs.YtakckkmhhedfpaaGreat

namespace Go.Proofs.YtakckkmhhedfpaaGreat
open Go.RowKit

theorem dartB_in (n : Nat) (r : Int) : inB r 0 ((n : Int) - 1) = dartB n r := by
  by_cases h : 0 ≤ r ∧ r < n
  · rw [inB_true h.1 (by omega), dartB, decide_eq_true h]
  · rw [inB_false (fun e => h ⟨e.1, by omega⟩), dartB, decide_eq_false h]

end Go.Proofs.YtakckkmhhedfpaaGreat
