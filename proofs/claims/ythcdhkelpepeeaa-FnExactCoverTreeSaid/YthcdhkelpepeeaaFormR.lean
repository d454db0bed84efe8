/-
  MapForm: the model's and the program's.
  MapForm's contracts in the form that the laws ask: the check of the dart, then the form.
-/
import Derived.Test.YthcdhkelpepeeaaNamesS
namespace Go.Proofs.Ythcdhkelpepeeaa
open Go.RowKit

theorem namesL_vld {t f : List Int} {root : Nat} (hm : IsMap t f) (hr : root < t.length) : Vld (namesL t f root) ∧ (namesL t f root).length = t.length := by
  have key : ∀ (m k : Nat) (nm q : List Int), t.length + 1 - k = m → Naming t f root k nm q → Vld (namesL t f root) ∧ (namesL t f root).length = t.length := by
    intro m
    induction m with
    | zero =>
      intro k nm q hk h
      have := h.le
      have := h.named.few
      omega
    | succ m ih =>
      intro k nm q hk h
      by_cases hlt : k < q.length
      · exact ih (k + 1) _ _ (by omega) (h.next hm.turn hm.flip hm.len hlt)
      · obtain ⟨e, hv⟩ := h.done hm hr hlt
        rw [e]
        exact ⟨hv, h.named.len⟩
  exact key _ 0 _ _ rfl (Naming.start hr)
def formT (t f : List Int) (root : Nat) : List Int := conjL t (namesL t f root)
def formF (t f : List Int) (root : Nat) : List Int := conjL f (namesL t f root)
def dartB (n : Nat) (r : Int) : Bool := decide (0 ≤ r ∧ r < n)
noncomputable def formR (t f : List Int) (r : Int) : Bool × List Int × List Int := if mapV t f = true ∧ dartB t.length r = true then (true, formT t f r.toNat, formF t f r.toNat) else (false, [], [])
theorem formT_len {t f : List Int} {root : Nat} (hm : IsMap t f) (hr : root < t.length) : (formT t f root).length = t.length := by rw [formT, conjL_len]; exact (namesL_vld hm hr).2
theorem formF_len {t f : List Int} {root : Nat} (hm : IsMap t f) (hr : root < t.length) : (formF t f root).length = t.length := by rw [formF, conjL_len]; exact (namesL_vld hm hr).2
theorem formR_len {t f yt yf : List Int} {r : Int} {ok : Bool} (h : formR t f r = (ok, yt, yf)) : yt.length ≤ 12 ∧ yf.length ≤ 12 := by
  unfold formR at h
  split at h
  · rename_i hb
    injection h with _ h; injection h with h1 h2
    have hm := mapV_iff.1 hb.1
    have hd : 0 ≤ r ∧ r < t.length := by simpa [dartB] using hb.2
    rw [← h1, ← h2, formT_len hm (by omega), formF_len hm (by omega)]; exact ⟨hm.turn.2.1, hm.turn.2.1⟩
  · injection h with _ h; injection h with h1 h2; rw [← h1, ← h2]; simp

end Go.Proofs.Ythcdhkelpepeeaa

namespace Go.Proofs.Ythcdhkelpepeeaa
open Go.RowKit

theorem dartB_in (n : Nat) (r : Int) : inB r 0 ((n : Int) - 1) = dartB n r := by
  by_cases h : 0 ≤ r ∧ r < n
  · rw [inB_true h.1 (by omega), dartB, decide_eq_true h]
  · rw [inB_false (fun e => h ⟨e.1, by omega⟩), dartB, decide_eq_false h]

set_option maxHeartbeats 1600000 in
theorem l2Dart_lit (w : World) (A A' : Option Addr) (n n' c c' : Nat) (t f : List Int) (h : Rd w A n t) (h' : Rd w A' n' f) (hn : n ≤ 1048576) (hn' : n' ≤ 1048576) (r : Int) {ok : Bool} (hR : (mapV t f && dartB n r) = ok) :
    Calls Try.prog 57 #[.agg #[.slice A n c, .slice A' n' c'], .int .i64 r] w fun e w' => e = .returned (.bool ok) ∧ Below w.heap.size w w' := by
  have hb0 : Below w.heap.size w (w.alloc (.cells #[.slice A n c, .slice A' n' c'] 29)) := (Below.refl _ _).alloc (Nat.le_refl _) _
  have hbx := Box2.new w A n c A' n' c'
  have c0 := hbx.cell0
  have c1 := hbx.cell1
  have HB0 := Lib.hid hb0; have HBX := Lib.hid hbx; have H := Lib.hid h; have H' := Lib.hid h'; clear hb0 hbx h h'
  by_cases hv : mapV t f = true
  · rw [hv, Bool.true_and] at hR
    have HV := Lib.hid hv; have HR := Lib.hid ((dartB_in n r).trans hR); clear hv hR
    go_enter Try.func57, Try.ntmps57
    go_wp2_with fail
    refine (spec_mapV _ A A' n n' c c' t f (H.out.below HB0.out) (H'.out.below HB0.out) hn hn' HV.out).mono ?_
    rintro e w1 ⟨rfl, bl⟩
    have c0 := (HBX.out.below bl).cell0
    have c1 := (HBX.out.below bl).cell1
    have HB1 := Lib.hid (HB0.out.trans (bl.mono HB0.out.size)); clear bl
    go_wp2_with fail
    refine (l6In_any _ _ _ _).mono ?_
    rintro e w' ⟨rfl, rfl⟩
    rw [HR.out]
    go_wp2
    go_ret
    exact ⟨rfl, HB1.out⟩
  · have hv' : mapV t f = false := by simpa using hv
    rw [hv', Bool.false_and] at hR
    subst hR
    have HV := Lib.hid hv'; clear hv hv'
    go_enter Try.func57, Try.ntmps57
    go_wp2_with fail
    refine (spec_mapV _ A A' n n' c c' t f (H.out.below HB0.out) (H'.out.below HB0.out) hn hn' HV.out).mono ?_
    rintro e w1 ⟨rfl, bl⟩
    have HB1 := Lib.hid (HB0.out.trans (bl.mono HB0.out.size)); clear bl
    go_wp2
    go_ret
    exact ⟨rfl, HB1.out⟩

set_option maxHeartbeats 1600000 in
theorem hasDart_lit (w : World) (x : Nat) (A A' : Option Addr) (n n' c c' : Nat) (hx : Box2 w x A n c A' n' c') (r : Int) {ok : Bool} (hR : dartB n r = ok) :
    Calls Try.prog 70 #[.pointer (some ⟨x, 0, none⟩), .int .i64 r] w fun e w' => e = .returned (.bool ok) ∧ w = w' := by
  have c0 := hx.cell0
  clear hx
  by_cases hr : 0 ≤ r
  · by_cases hr' : r < n
    · have hok : ok = true := by rw [← hR, dartB, decide_eq_true ⟨hr, hr'⟩]
      subst hok; clear hR
      go_enter Try.func70, Try.ntmps70
      go_wp2
      go_ret
      exact ⟨rfl, rfl⟩
    · have hok : ok = false := by rw [← hR, dartB, decide_eq_false (fun e => hr' e.2)]
      subst hok; clear hR
      go_enter Try.func70, Try.ntmps70
      go_wp2
      go_ret
      exact ⟨rfl, rfl⟩
  · have hok : ok = false := by rw [← hR, dartB, decide_eq_false (fun e => hr e.1)]
    subst hok; clear hR
    go_enter Try.func70, Try.ntmps70
    go_wp2
    go_ret
    exact ⟨rfl, rfl⟩

end Go.Proofs.Ythcdhkelpepeeaa
