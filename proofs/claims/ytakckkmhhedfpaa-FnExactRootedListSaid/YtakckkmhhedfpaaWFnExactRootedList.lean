/-
  RootedList: the model's and the program's by contract; FnExactRootedList: the walk of the law.
-/
import Derived.Test.YtakckkmhhedfpaaKitMS
namespace Go.Proofs.Ytakckkmhhedfpaa
open Go.RowKit
set_option linter.unusedVariables false

def okL (x0 x1 : Int) : Bool := inB x0 1 2 && decide (0 ≤ x1)
theorem okL_nat {x0 x1 : Int} (h : okL x0 x1 = true) : ∃ e : Nat, x0 = e ∧ 1 ≤ e ∧ e ≤ 2 ∧ inB x0 1 2 = true ∧ 0 ≤ x1 := by
  unfold okL inB at h
  simp only [Bool.and_eq_true, decide_eq_true_eq] at h
  exact ⟨x0.toNat, by omega, by omega, by omega, inB_true (by omega) (by omega), h.2⟩

set_option maxHeartbeats 800000 in
theorem spec_rlYes (e : Nat) (x1 : Int) (w : World) (h1 : 1 ≤ e) (h2 : e ≤ 2) (hg : 0 ≤ x1) :
    Calls Try.prog 14 #[.int .i64 e, .int .i64 x1] w fun r w' => ∃ g c, r = .returned (.tuple #[.slice (some ⟨g, 0, none⟩) (gL e x1).length c, .bool true]) ∧ RowM w' w.heap.size (.slice (some ⟨g, 0, none⟩) (gL e x1).length c) ((gL e x1).map MV.pr) ∧ Below w.heap.size w w' := by
  have HI : Hid (inB (e : Int) 1 2 = true) := inB_true (by omega) (by omega)
  go_enter Try.func14, Try.ntmps14
  go_wp2_with fail
  refine (l6In_any e 1 2 w).mono ?_
  rw [HI.out]
  rintro r w1 ⟨rfl, rfl⟩
  go_wp2_with fail
  refine (l3All_any e x1 w h1 (by omega)).mono ?_
  rintro r W1 ⟨g, c, rfl, hrow, hb1⟩
  have HROW : Hid (RowM W1 w.heap.size (.slice (some ⟨g, 0, none⟩) (gL e x1).length c) ((gL e x1).map MV.pr)) := hrow
  have HB1 := Lib.hid hb1
  rw [show accL e x1 (allT e).length = gL e x1 from rfl]
  clear hrow hb1
  go_wp2_with fail
  go_ret2
  exact ⟨g, c, rfl, HROW.out, HB1.out⟩
set_option maxHeartbeats 800000 in
theorem spec_rlNo (x0 x1 : Int) (w : World) (h : okL x0 x1 = false) :
    Calls Try.prog 14 #[.int .i64 x0, .int .i64 x1] w fun r w' => ∃ A c, r = .returned (.tuple #[.slice A 0 c, .bool false]) ∧ Below w.heap.size w w' := by
  have HB : Hid (Below w.heap.size w (w.alloc (.cells #[] 35))) := (Below.refl _ _).alloc (Nat.le_refl _) _
  have HOK := Lib.hid h; clear h
  by_cases hg : 0 ≤ x1
  · have HI : Hid (inB x0 1 2 = false) := by
      have h := HOK.out
      unfold okL at h
      rw [decide_eq_true hg, Bool.and_true] at h
      exact h
    go_enter Try.func14, Try.ntmps14
    go_wp2_with fail
    refine (l6In_any x0 1 2 w).mono ?_
    rw [HI.out]
    rintro r w1 ⟨rfl, rfl⟩
    go_wp2_with fail
    go_ret2
    exact ⟨_, _, rfl, HB.out⟩
  · cases hi : inB x0 1 2 with
    | false =>
      have HI := Lib.hid hi; clear hi
      go_enter Try.func14, Try.ntmps14
      go_wp2_with fail
      refine (l6In_any x0 1 2 w).mono ?_
      rw [HI.out]
      rintro r w1 ⟨rfl, rfl⟩
      go_wp2_with fail
      go_ret2
      exact ⟨_, _, rfl, HB.out⟩
    | true =>
      have HI := Lib.hid hi; clear hi
      go_enter Try.func14, Try.ntmps14
      go_wp2_with fail
      refine (l6In_any x0 1 2 w).mono ?_
      rw [HI.out]
      rintro r w1 ⟨rfl, rfl⟩
      go_wp2_with fail
      go_ret2
      exact ⟨_, _, rfl, HB.out⟩
set_option maxHeartbeats 800000 in
theorem impl_rlYes (e : Nat) (x1 : Int) (w : World) (h1 : 1 ≤ e) (h2 : e ≤ 2) (hg : 0 ≤ x1) :
    Calls Try.prog 15 #[.int .i64 e, .int .i64 x1] w fun r w' => ∃ g c, r = .returned (.tuple #[.slice (some ⟨g, 0, none⟩) (gL e x1).length c, .bool true]) ∧ RowD w' w.heap.size (.slice (some ⟨g, 0, none⟩) (gL e x1).length c) ((gL e x1).map MV.pr) ∧ Below w.heap.size w w' := by
  have d1 : decide ((e : Int) < 1) = false := by simp; omega
  have d2 : decide ((2 : Int) < (e : Int)) = false := by simp; omega
  have d3 : decide (x1 < 0) = false := by simp; omega
  go_enter Try.func15, Try.ntmps15
  go_wp2_with fail
  refine (rootedOf_any e x1 w h1 (by omega)).mono ?_
  rintro r W1 ⟨g, c, rfl, hrow, hb1⟩
  have HROW : Hid (RowD W1 w.heap.size (.slice (some ⟨g, 0, none⟩) (gL e x1).length c) ((gL e x1).map MV.pr)) := hrow
  have HB1 := Lib.hid hb1
  rw [show accL e x1 (allT e).length = gL e x1 from rfl]
  clear hrow hb1
  go_wp2_with fail
  go_ret2
  exact ⟨g, c, rfl, HROW.out, HB1.out⟩
set_option maxHeartbeats 800000 in
theorem impl_rlNo (x0 x1 : Int) (w : World) (h : okL x0 x1 = false) :
    Calls Try.prog 15 #[.int .i64 x0, .int .i64 x1] w fun r w' => r = .returned (.tuple #[.slice none 0 0, .bool false]) ∧ w = w' := by
  have HOK := Lib.hid h; clear h
  by_cases h1 : x0 < 1
  · go_enter Try.func15, Try.ntmps15
    go_wp2_with fail
    go_ret2
    exact ⟨rfl, rfl⟩
  · by_cases h2 : 2 < x0
    · go_enter Try.func15, Try.ntmps15
      go_wp2_with fail
      go_ret2
      exact ⟨rfl, rfl⟩
    · have h3 : x1 < 0 := by
        apply Decidable.byContradiction
        intro h3
        have h := HOK.out
        unfold okL at h
        rw [inB_true (by omega) (by omega), decide_eq_true (by omega)] at h
        cases h
      go_enter Try.func15, Try.ntmps15
      go_wp2_with fail
      go_ret2
      exact ⟨rfl, rfl⟩

theorem pr_lens {n : Nat} (l : List (MV n)) : ∀ p ∈ l.map MV.pr, p.1.length = n ∧ p.2.length = n := by
  intro p hp
  obtain ⟨x, _, rfl⟩ := List.mem_map.1 hp
  exact ⟨x.ht, x.hf⟩

set_option maxRecDepth 20000 in
set_option maxHeartbeats 3200000 in
theorem walk_FnExactRootedList (x0 x1 : Int) (w : World) (hw0 : (Lit.int .i64 x0).wf = true) (hw1 : (Lit.int .i64 x1).wf = true) :
    Calls Try.prog 4 #[.int .i64 x0, .int .i64 x1] w fun e w' => e = .returned (.bool true) ∧ Below w.heap.size w w' := by
  cases hok : okL x0 x1 with
  | false =>
    have HOK := Lib.hid hok; clear hok
    go_enter Try.func4, Try.ntmps4
    go_wp2_with fail
    refine (spec_rlNo x0 x1 w HOK.out).mono ?_
    rintro r W1 ⟨A, c, rfl, b1⟩
    have HB1 := Lib.hid b1; clear b1
    go_wp2_with fail
    refine (impl_rlNo x0 x1 W1 HOK.out).mono ?_
    rintro r W2 ⟨rfl, rfl⟩
    go_wp2_with fail
    refine (eqMapS_zero _ _ _ _ W1).mono ?_
    rintro r W2 ⟨rfl, rfl⟩
    go_wp2_with fail
    refine (markMapS_zero _ _ 1 W1).mono ?_
    rintro r W2 ⟨rfl, rfl⟩
    go_wp2_with fail
    refine (heldMapS_zero _ _ 1 W1).mono ?_
    rintro r W2 ⟨rfl, rfl⟩
    go_wp2_with fail
    refine (impl_rlNo x0 x1 W1 HOK.out).mono ?_
    rintro r W2 ⟨rfl, rfl⟩
    go_wp2_with fail
    refine (eqMapS_zero _ _ _ _ W1).mono ?_
    rintro r W2 ⟨rfl, rfl⟩
    go_wp2_with fail
    refine (heldMapS_zero _ _ 1 W1).mono ?_
    rintro r W2 ⟨rfl, rfl⟩
    go_wp2_with fail
    go_ret
    exact ⟨rfl, HB1.out⟩
  | true =>
    obtain ⟨e, rfl, h1, h2, hin, hg⟩ := okL_nat hok
    clear hok hin
    obtain ⟨ms, hms⟩ : ∃ ms, (gL e x1).map MV.pr = ms := ⟨_, rfl⟩
    have HLN : Hid (∀ p ∈ ms, p.1.length = 2 * e ∧ p.2.length = 2 * e) := by rw [← hms]; exact pr_lens _
    obtain ⟨N, hN⟩ : ∃ N, (gL e x1).length = N := ⟨_, rfl⟩
    have hN7 : N ≤ 720 := by rw [← hN]; exact gL_few h1 (by omega)
    have HN : Hid (ms.length = N) := by rw [← hms, Hid, List.length_map, hN]
    have HSP : Hid (∀ W : World, Calls Try.prog 14 #[.int .i64 e, .int .i64 x1] W fun r w' => ∃ g c, r = .returned (.tuple #[.slice (some ⟨g, 0, none⟩) N c, .bool true]) ∧ RowM w' W.heap.size (.slice (some ⟨g, 0, none⟩) N c) ms ∧ Below W.heap.size W w') := fun W => by rw [← hN, ← hms]; exact spec_rlYes e x1 W h1 h2 hg
    have HIM : Hid (∀ W : World, Calls Try.prog 15 #[.int .i64 e, .int .i64 x1] W fun r w' => ∃ g c, r = .returned (.tuple #[.slice (some ⟨g, 0, none⟩) N c, .bool true]) ∧ RowD w' W.heap.size (.slice (some ⟨g, 0, none⟩) N c) ms ∧ Below W.heap.size W w') := fun W => by rw [← hN, ← hms]; exact impl_rlYes e x1 W h1 h2 hg
    clear hN hms
    obtain ⟨z, hz⟩ : ∃ z, 1 + 2 * ((2 * e : Nat) : Int) * (N : Int) = z := ⟨_, rfl⟩
    have hz0 : 0 ≤ z ∧ z ≤ 100000 := by
      have h3 : 2 * ((2 * e : Nat) : Int) * (N : Int) ≤ 24 * 720 := Int.mul_le_mul (by omega) (by omega) (by omega) (by omega)
      have h0 : 0 ≤ 2 * ((2 * e : Nat) : Int) * (N : Int) := Int.mul_nonneg (by omega) (by omega)
      omega
    have hd : decide (z < 0) = false := by simp; omega
    have hzz : (z != z) = false := by simp
    have HZ := Lib.hid hz
    clear hz
    go_enter Try.func4, Try.ntmps4
    go_wp2_with fail
    refine (HSP.out w).mono ?_
    rintro r W1 ⟨g, c, rfl, r1, b1⟩
    have HR1 := Lib.hid r1; have HB1 := Lib.hid b1
    clear r1 b1
    go_wp2_with fail
    refine (HIM.out W1).mono ?_
    rintro r W2 ⟨g2, c2, rfl, r2, b2⟩
    have HR2 := Lib.hid r2; have HB2 := Lib.hid b2
    clear r2 b2
    go_wp2_with fail
    refine (eqMapS_any _ _ g2 g N c2 c (2 * e) ms W2 HR2.out.row (HR1.out.below HB2.out) HN.out HLN.out (by omega) hN7).mono ?_
    rintro r W3 ⟨rfl, b3⟩
    have HR3 := Lib.hid (HR2.out.below b3); have HB3 := Lib.hid (HB2.out.trans (b3.mono HB2.out.size))
    clear b3
    go_wp2_with fail
    refine (markMapS_any _ g2 N c2 (2 * e) ms 1 W3 HR3.out HN.out HLN.out HB3.out.size (by omega) hN7 (by omega) (by omega)).mono ?_
    rw [HZ.out]
    rintro r W4 ⟨rfl, r4, b4⟩
    have HR4 := Lib.hid r4; have HB4 := Lib.hid (HB3.out.trans b4)
    clear r4 b4
    go_wp2_with fail
    refine (heldMapS_any _ g2 N c2 (2 * e) ms 1 W4 HR4.out.row HN.out (by omega) hN7 (by omega) (by omega)).mono ?_
    rw [HZ.out]
    rintro r W5 ⟨rfl, rfl⟩
    go_wp2_with fail
    refine (HIM.out W4).mono ?_
    rintro r W6 ⟨g3, c3, rfl, r6, b6⟩
    have HR6 := Lib.hid r6; have HB6 := Lib.hid (HB4.out.trans (b6.mono HB4.out.size)); have HR4' := Lib.hid (HR4.out.below b6)
    clear r6 b6
    go_wp2_with fail
    refine (eqMapS_any _ _ g3 g N c3 c (2 * e) ms W6 HR6.out.row (HR1.out.below HB6.out) HN.out HLN.out (by omega) hN7).mono ?_
    rintro r W7 ⟨rfl, b7⟩
    have HR7 := Lib.hid (HR4'.out.below b7); have HB7 := Lib.hid (HB6.out.trans (b7.mono HB6.out.size))
    clear b7
    go_wp2_with fail
    refine (heldMapS_any _ g2 N c2 (2 * e) ms 1 W7 HR7.out.row HN.out (by omega) hN7 (by omega) (by omega)).mono ?_
    rw [HZ.out]
    rintro r W8 ⟨rfl, rfl⟩
    go_wp2_with fail
    go_ret
    exact ⟨rfl, HB1.out.trans (HB7.out.mono HB1.out.size)⟩

end Go.Proofs.Ytakckkmhhedfpaa
