/-
  GluingGenus, GluingTurn: the model's and the program's.
-/
import Derived.Test.YtolbcdhkjhbepaaGluD
import Derived.Test.YtolbcdhkjhbepaaConj
namespace Go.Proofs.Ytolbcdhkjhbepaa
open Go.RowKit

set_option maxHeartbeats 800000 in
theorem genusG_any (w : World) (A : Option Addr) (c n : Nat) (xs : List Int) (h : Rd w A n xs) (hg : IsG xs) {r : Int} (hR : ggen xs = r) :
    Calls Try.prog 41 #[.slice A n c] w fun e w' => e = .returned (.int .i64 r) ∧ Below w.heap.size w w' := by
  have hn10 : n ≤ 10 := by rw [← h.1]; exact hg.2.1
  obtain ⟨q, hq⟩ : ∃ q, ncor xs = q := ⟨_, rfl⟩
  have hq10 : q ≤ 10 := by rw [← hq]; exact ncor_le hg
  have hw : IntKind.i64.wrap ((n : Int) / 2) = ((n / 2 : Nat) : Int) := by rw [IntWalk.i64_in _ (by omega)]; omega
  have s2 : IntKind.i64.wrap (((n / 2 : Nat) : Int) + 1) = ((n / 2 : Nat) : Int) + 1 := IntWalk.i64_in _ (by omega)
  have s3 : IntKind.i64.wrap (((n / 2 : Nat) : Int) + 1 - (q : Int)) = ((n / 2 : Nat) : Int) + 1 - (q : Int) := IntWalk.i64_in _ (by omega)
  have s4 : IntKind.i64.wrap ((((n / 2 : Nat) : Int) + 1 - (q : Int)).tdiv 2) = (((n / 2 : Nat) : Int) + 1 - (q : Int)).tdiv 2 := by
    rw [IntWalk.i64_in _ (by rw [tdiv_eq_if]; split <;> omega)]
  have HR : Hid ((((n / 2 : Nat) : Int) + 1 - (q : Int)).tdiv 2 = r) := by rw [Hid, ← hR, ggen, hq, h.1]
  have HQ : Hid ((cyclesL (corL xs)).length = q) := hq
  have H := Lib.hid h; have Hx := Lib.hid h.1; have HG := Lib.hid hg; clear h hg hR hq
  go_enter Try.func41, Try.ntmps41
  go_wp2_with fail
  refine (corners_any w A c n xs H.out HG.out).mono ?_
  rintro e w1 ⟨v, rfl, o, b⟩
  obtain ⟨A1, c1, rfl, r1, -⟩ := o.form' ((corL_len xs).trans Hx.out)
  have HB := Lib.hid b; have R1 := Lib.hid r1; clear b o r1
  go_wp2_with fail
  refine (count_any w1 A1 c1 n (corL xs) R1.out (corL_vld HG.out)).mono ?_
  rintro e w2 ⟨rfl, b⟩
  rw [HQ.out]
  have HB2 := Lib.hid (HB.out.trans (b.mono HB.out.size)); clear b
  go_wp2_with fail
  go_ret
  exact ⟨ret_int HR.out, HB2.out⟩

set_option maxHeartbeats 800000 in
theorem spec_ggenR (w : World) (A : Option Addr) (c n : Nat) (xs : List Int) (h : Rd w A n xs) (hn : n ≤ 1048576) {r : Int} (hR : ggenR xs = r) :
    Calls Try.prog 38 #[.slice A n c] w fun e w' => e = .returned (.int .i64 r) ∧ Below w.heap.size w w' := by
  by_cases hg : glu xs = true
  · rw [ggenR, if_pos hg] at hR
    have hi := glu_iff.1 hg
    have hn10 : n ≤ 10 := by rw [← h.1]; exact hi.2.1
    obtain ⟨q, hq⟩ : ∃ q, ncor xs = q := ⟨_, rfl⟩
    have hq10 : q ≤ 10 := by rw [← hq]; exact ncor_le hi
    have hw : IntKind.i64.wrap ((n : Int) / 2) = ((n / 2 : Nat) : Int) := by rw [IntWalk.i64_in _ (by omega)]; omega
    have s2 : IntKind.i64.wrap (((n / 2 : Nat) : Int) + 1) = ((n / 2 : Nat) : Int) + 1 := IntWalk.i64_in _ (by omega)
    have s3 : IntKind.i64.wrap (((n / 2 : Nat) : Int) + 1 - (q : Int)) = ((n / 2 : Nat) : Int) + 1 - (q : Int) := IntWalk.i64_in _ (by omega)
    have s4 : IntKind.i64.wrap ((((n / 2 : Nat) : Int) + 1 - (q : Int)).tdiv 2) = (((n / 2 : Nat) : Int) + 1 - (q : Int)).tdiv 2 := by
      rw [IntWalk.i64_in _ (by rw [tdiv_eq_if]; split <;> omega)]
    have HR : Hid ((((n / 2 : Nat) : Int) + 1 - (q : Int)).tdiv 2 = r) := by rw [Hid, ← hR, ggen, hq, h.1]
    have HQ : Hid (gcorR xs = (q : Int)) := by rw [Hid, gcorR, if_pos hg, hq]
    have HG := Lib.hid hg; have H := Lib.hid h; clear hg hR h hq hi
    go_enter Try.func38, Try.ntmps38
    go_wp2_with fail
    refine (spec_glu w A c n xs H.out hn HG.out).mono ?_
    rintro e w1 ⟨rfl, b⟩
    have HB := Lib.hid b; clear b
    go_wp2_with fail
    refine (spec_gcorR w1 A c n xs (H.out.below HB.out) hn HQ.out).mono ?_
    rintro e w2 ⟨rfl, b⟩
    have HB2 := Lib.hid (HB.out.trans (b.mono HB.out.size)); clear b
    go_wp2_with fail
    go_ret
    exact ⟨ret_int HR.out, HB2.out⟩
  · rw [ggenR, if_neg hg] at hR
    have hg' : glu xs = false := by simpa using hg
    have HG := Lib.hid hg'; have HR := Lib.hid hR; have H := Lib.hid h; clear hg hg' hR h
    go_enter Try.func38, Try.ntmps38
    go_wp2_with fail
    refine (spec_glu w A c n xs H.out hn HG.out).mono ?_
    rintro e w1 ⟨rfl, b⟩
    have HB := Lib.hid b; clear b
    go_wp2_with fail
    go_ret
    exact ⟨ret_int HR.out, HB.out⟩

set_option maxHeartbeats 800000 in
theorem impl_gtuR (w : World) (A : Option Addr) (c n : Nat) (xs : List Int) (h : Rd w A n xs) (hn : n ≤ 1048576) {ok : Bool} {ys : List Int} (hR : gtuR xs = (ok, ys)) :
    Calls Try.prog 26 #[.slice A n c] w fun e w' => ∃ v, e = .returned (.tuple #[v, .bool ok]) ∧ Own w' w.heap.size v ys ∧ Below w.heap.size w w' := by
  by_cases hg : glu xs = true
  · obtain ⟨rfl, rfl⟩ : ok = true ∧ ys = turnG xs := by rw [gtuR, if_pos hg] at hR; simpa [eq_comm] using hR
    have hi := glu_iff.1 hg
    have hn10 : n ≤ 10 := by rw [← h.1]; exact hi.2.1
    have hn2 : 2 ≤ n := by rw [← h.1]; exact hi.1
    have HI := Lib.hid hi; have HG := Lib.hid hg; have Hx := Lib.hid h.1; have H := Lib.hid h; clear hg hR h hi
    go_enter Try.func26, Try.ntmps26
    go_wp2_with fail
    refine (impl_glu w A c n xs H.out hn HG.out).mono ?_
    rintro e w1 ⟨rfl, b⟩
    have HB := Lib.hid b; have H1 := Lib.hid (H.out.below b); clear b
    go_wp2_with fail
    refine (following_any w1 n (by omega) (by omega)).mono ?_
    rintro e w2 ⟨v, rfl, o, b⟩
    obtain ⟨A1, c1, rfl, r1, -⟩ := o.form' (folL_len n)
    have HB2 := Lib.hid (HB.out.trans (b.mono HB.out.size)); have R1 := Lib.hid r1; have H2 := Lib.hid (H1.out.below b); clear b o r1
    go_wp2_with fail
    refine (conj_any A A1 n c c1 xs (folL n) w2 H2.out R1.out (by omega) HI.out.vld (folL_vld n (by omega) (by omega))).mono ?_
    rintro e w3 ⟨v, rfl, o, b⟩
    have HO := Lib.hid (o.mono HB2.out.size); have HB3 := Lib.hid (HB2.out.trans (b.mono HB2.out.size)); clear o b
    go_wp2_with fail
    go_ret2
    exact ⟨_, rfl, by rw [turnG, Hx.out]; exact HO.out, HB3.out⟩
  · have hg' : glu xs = false := by simpa using hg
    obtain ⟨rfl, rfl⟩ : ok = false ∧ ys = [] := by rw [gtuR, if_neg hg] at hR; simpa [eq_comm] using hR
    have HG := Lib.hid hg'; have H := Lib.hid h; clear hg hg' hR h
    go_enter Try.func26, Try.ntmps26
    go_wp2_with fail
    refine (impl_glu w A c n xs H.out hn HG.out).mono ?_
    rintro e w1 ⟨rfl, b⟩
    have HB := Lib.hid b; clear b
    go_wp2_with fail
    go_ret2
    exact ⟨_, rfl, Own.nil_ _ _, HB.out⟩

end Go.Proofs.Ytolbcdhkjhbepaa
