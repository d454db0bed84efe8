/-
  PermOrbits: the model's and the program's.
-/
import Derived.Test.YteajaikgeephmaaSpecOrb
import Derived.Test.YteajaikgeephmaaImplOrb
namespace Go.Proofs.Yteajaikgeephmaa
open Go.RowKit

set_option maxHeartbeats 800000 in
theorem spec_orbR (w : World) (A0 : Option Addr) (c0 n0 : Nat) (xs0 : List Int) (h0 : Rd w A0 n0 xs0) (hn0 : n0 ≤ 1048576) (A1 : Option Addr) (c1 n1 : Nat) (xs1 : List Int) (h1 : Rd w A1 n1 xs1) (hn1 : n1 ≤ 1048576)
    {ok : Bool} {ys : List Int} (hR : orbR xs0 xs1 = (ok, ys)) :
    Calls Try.prog 17 #[.slice A0 n0 c0, .slice A1 n1 c1] w fun e w' => ∃ v, e = .returned (.tuple #[v, .bool ok]) ∧ Own w' w.heap.size v ys ∧ Below w.heap.size w w' := by
  have H0 := Lib.hid h0; have H1 := Lib.hid h1; have HR := Lib.hid hR; clear h0 h1 hR
  by_cases hb : both xs0 xs1 = true
  · have hb3 := both_iff.1 hb
    obtain ⟨rfl, rfl⟩ : ok = true ∧ ys = orbL xs0 xs1 := by have := HR.out; rw [orbR, if_pos hb] at this; simpa [eq_comm] using this
    clear HR
    obtain rfl : n0 = n1 := by rw [← H0.out.1, ← H1.out.1]; exact hb3.2.2
    have HV := Lib.hid hb3.1; have HV1 := Lib.hid hb3.2.1; clear hb3
    go_enter Try.func17, Try.ntmps17
    go_wp2_with fail
    refine (l1Both_any A0 A1 n0 n0 c0 c1 xs0 xs1 w H0.out H1.out (by omega) (by omega)).mono ?_
    rintro e w1 ⟨rfl, b⟩
    have HB := Lib.hid b; have H01 := Lib.hid (H0.out.below b); have H11 := Lib.hid (H1.out.below b); clear b
    go_wp2_with fail
    refine (l1Orbits_any A0 A1 n0 c0 c1 xs0 xs1 w1 H01.out H11.out HV.out HV1.out).mono ?_
    rintro e w2 ⟨v, rfl, o, b⟩
    have HO := Lib.hid (o.mono HB.out.size); have HB2 := Lib.hid (HB.out.trans (b.mono HB.out.size)); clear o b
    go_wp2_with fail
    go_ret2
    exact ⟨v, rfl, HO.out, HB2.out⟩
  · have hb' : both xs0 xs1 = false := by simpa using hb
    obtain ⟨rfl, rfl⟩ : ok = false ∧ ys = [] := by have := HR.out; rw [orbR, if_neg hb] at this; simpa [eq_comm] using this
    clear HR hb
    go_enter Try.func17, Try.ntmps17
    go_wp2_with fail
    refine (l1Both_any A0 A1 n0 n1 c0 c1 xs0 xs1 w H0.out H1.out (by omega) (by omega)).mono ?_
    rintro e w1 ⟨rfl, b⟩
    have HB := Lib.hid b; clear b
    go_wp2_with fail
    go_ret2
    exact ⟨_, rfl, Own.empty HB.out.size, HB.out.alloc HB.out.size _⟩

set_option maxHeartbeats 800000 in
theorem impl_orbR (w : World) (A0 : Option Addr) (c0 n0 : Nat) (xs0 : List Int) (h0 : Rd w A0 n0 xs0) (hn0 : n0 ≤ 1048576) (A1 : Option Addr) (c1 n1 : Nat) (xs1 : List Int) (h1 : Rd w A1 n1 xs1) (hn1 : n1 ≤ 1048576)
    {ok : Bool} {ys : List Int} (hR : orbR xs0 xs1 = (ok, ys)) :
    Calls Try.prog 16 #[.slice A0 n0 c0, .slice A1 n1 c1] w fun e w' => ∃ v, e = .returned (.tuple #[v, .bool ok]) ∧ Own w' w.heap.size v ys ∧ Below w.heap.size w w' := by
  have H0 := Lib.hid h0; have H1 := Lib.hid h1; have HR := Lib.hid hR; clear h0 h1 hR
  by_cases hb : both xs0 xs1 = true
  · have hb3 := both_iff.1 hb
    obtain ⟨rfl, rfl⟩ : ok = true ∧ ys = orbL xs0 xs1 := by have := HR.out; rw [orbR, if_pos hb] at this; simpa [eq_comm] using this
    clear HR
    obtain rfl : n0 = n1 := by rw [← H0.out.1, ← H1.out.1]; exact hb3.2.2
    have HV := Lib.hid hb3.1; have HV1 := Lib.hid hb3.2.1; clear hb3
    go_enter Try.func16, Try.ntmps16
    go_wp2_with fail
    refine (permPair_any A0 A1 n0 n0 c0 c1 xs0 xs1 w H0.out H1.out (by omega) (by omega)).mono ?_
    rintro e w1 ⟨rfl, b⟩
    have HB := Lib.hid b; have H01 := Lib.hid (H0.out.below b); have H11 := Lib.hid (H1.out.below b); clear b
    go_wp2_with fail
    have HB1a : Hid (Below w1.heap.size w1 (w1.alloc (.cells #[.slice A1 n0 c1] 60))) := (Below.refl _ _).alloc (Nat.le_refl _) _
    refine (orbits_any w1.heap.size A0 A1 n0 c0 c1 xs0 xs1 _ (by rw [cell_of_row _ w1.heap.size 0 _ _ (0, 0) (heap_alloc_new w1 _)]; rfl) (H01.out.alloc _) (H11.out.alloc _) HV.out HV1.out).mono ?_
    rintro e w2 ⟨v, rfl, o, b⟩
    have hb2 : Below w1.heap.size w1 w2 := HB1a.out.trans (b.mono (by simp))
    have HO := Lib.hid (o.mono (lo' := w.heap.size) (by have := HB.out.size; simp; omega)); have HB2 := Lib.hid (HB.out.trans (hb2.mono HB.out.size)); clear o b hb2
    go_wp2_with fail
    go_ret2
    exact ⟨v, rfl, HO.out, HB2.out⟩
  · have hb' : both xs0 xs1 = false := by simpa using hb
    obtain ⟨rfl, rfl⟩ : ok = false ∧ ys = [] := by have := HR.out; rw [orbR, if_neg hb] at this; simpa [eq_comm] using this
    clear HR hb
    go_enter Try.func16, Try.ntmps16
    go_wp2_with fail
    refine (permPair_any A0 A1 n0 n1 c0 c1 xs0 xs1 w H0.out H1.out (by omega) (by omega)).mono ?_
    rintro e w1 ⟨rfl, b⟩
    have HB := Lib.hid b; clear b
    go_wp2_with fail
    go_ret2
    exact ⟨_, rfl, Own.nil_ _ _, HB.out⟩

end Go.Proofs.Yteajaikgeephmaa
