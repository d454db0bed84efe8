/-
  PermOrder, the program's, whole.
-/
import Derived.Test.YtppblbmnjglhbaaImplOrd
namespace Go.Proofs.Ytppblbmnjglhbaa
open Go.RowKit Go.Shelf
attribute [local go_sem] Oper.semAt_some

theorem impl_ordR (w : World) (A0 : Option Addr) (c0 n0 : Nat) (xs0 : List Int) (h0 : Rd w A0 n0 xs0) (hn0 : n0 ≤ 1048576) {r : Int} (hR : ordR xs0 = r) :
    Calls Try.prog 12 #[.slice A0 n0 c0] w fun e w' => e = .returned (.int .i64 r) ∧ Below w.heap.size w w' := by
  have H0 := Lib.hid h0; have HR := Lib.hid hR; clear h0 hR
  by_cases hb : vld xs0 = true
  · have HV := Lib.hid (Vld_of hb)
    obtain rfl : r = (lcmL (cyclesL xs0) : Int) := by have := HR.out; rw [ordR, if_pos hb] at this; exact this.symm
    clear HR
    go_enter Try.func12, Try.ntmps12
    go_wp2_with fail
    refine (implValid_any A0 n0 c0 xs0 w H0.out (by omega)).mono ?_
    rintro e w1 ⟨rfl, b⟩
    have HB := Lib.hid b; have H01 := Lib.hid (H0.out.below b); clear b
    go_wp2_with fail
    refine (order_any w1 A0 c0 n0 xs0 H01.out HV.out).mono ?_
    rintro e w2 ⟨rfl, b⟩
    have HB2 := Lib.hid (HB.out.trans (b.mono HB.out.size)); clear b
    go_wp2_with fail
    go_ret
    exact ⟨rfl, HB2.out⟩
  · obtain rfl : r = -1 := by have := HR.out; rw [ordR, if_neg hb] at this; exact this.symm
    have hb' : vld xs0 = false := by simpa using hb
    clear HR hb
    go_enter Try.func12, Try.ntmps12
    go_wp2_with fail
    refine (implValid_any A0 n0 c0 xs0 w H0.out (by omega)).mono ?_
    rintro e w1 ⟨rfl, b⟩
    have HB := Lib.hid b; clear b
    go_wp2_with fail
    go_ret
    exact ⟨rfl, HB.out⟩

end Go.Proofs.Ytppblbmnjglhbaa
