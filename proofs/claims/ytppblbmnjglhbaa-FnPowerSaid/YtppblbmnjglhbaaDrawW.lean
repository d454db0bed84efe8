/-
  The draw of a permutation and a power.
-/
import Derived.Test.YtppblbmnjglhbaaLawMap
import Derived.Deep.RegionWith
namespace Go.Proofs.Ytppblbmnjglhbaa
open Go.RowKit
set_option linter.unusedVariables false

theorem lit4 {w W w' : World} {rb : Nat} {a b c d : Int} (hW : w.alloc (.cells #[.int .i64 a, .int .i64 b, .int .i64 c, .int .i64 d] 3) = W) (hg : W.grownBy w' (some rb)) (hr : rb < w.heap.size) {y : Nat} (hy : y < 4) :
    ∃ u : Int, w'.cell? ⟨w.heap.size, y, none⟩ = some (.int .i64 u) ∧ (u = a ∨ u = b ∨ u = c ∨ u = d) := by
  have hn : W.heap[w.heap.size]? = some (.cells #[.int .i64 a, .int .i64 b, .int .i64 c, .int .i64 d] 3 (0, 0)) := by rw [← hW]; exact heap_alloc_new w _
  have hl : w'.heap[w.heap.size]? = some (.cells #[.int .i64 a, .int .i64 b, .int .i64 c, .int .i64 d] 3 (0, 0)) := (hg.block _ (Array.getElem?_eq_some_iff.1 hn).1 (by intro e; injection e with e; omega)).trans hn
  rw [cell_of_row w' _ y _ _ (0, 0) hl]
  rcases (show y = 0 ∨ y = 1 ∨ y = 2 ∨ y = 3 by omega) with rfl | rfl | rfl | rfl
  · exact ⟨a, rfl, .inl rfl⟩
  · exact ⟨b, rfl, .inr (.inl rfl)⟩
  · exact ⟨c, rfl, .inr (.inr (.inl rfl))⟩
  · exact ⟨d, rfl, .inr (.inr (.inr rfl))⟩
theorem grown_own {lo B rb : Nat} {w a b : World} {v : Value} {xs : List Int} (h : Own a lo v xs) (hb : Below B w a) (g : a.grownBy b (some rb)) (hr : rb < lo) (hB : B ≤ rb) (hs : B ≤ a.heap.size) : Own b lo v xs ∧ Below B w b :=
  ⟨h.gr g hr, hb.grown g hs (fun k e => by cases e; exact hB)⟩

theorem pickA4 (w w3 : World) (rb q lo : Nat) (v : Value) (xs : List Int) (hr : Reads w3 rb q) (hq : q ≤ 1000000) (hb : Below w.heap.size w w3) (hle : w.heap.size ≤ rb) (ho : Own w3 lo v xs) (hlo : rb < lo) :
    Calls Try.prog 35 #[.pointer (some ⟨rb, 0, none⟩), .int .i64 4] (w3.alloc (.cells #[.int .i64 1001, .int .i64 (-1001), .int .i64 (-9223372036854775808), .int .i64 1000] 3)).drew fun e w4 => ∃ (x : Nat) (u : Int), e = .returned (.int .i64 x) ∧ x < 4 ∧ w4.cell? ⟨w3.heap.size, x, none⟩ = some (.int .i64 u) ∧ (u = 1001 ∨ u = -1001 ∨ u = -9223372036854775808 ∨ u = 1000) ∧ Own w4 lo v xs ∧ Below w.heap.size w w4 := by
  have hb3 : Below w.heap.size w (w3.alloc (.cells #[.int .i64 1001, .int .i64 (-1001), .int .i64 (-9223372036854775808), .int .i64 1000] 3)).drew := (hb.alloc hb.size _).drew
  have ho3 : Own (w3.alloc (.cells #[.int .i64 1001, .int .i64 (-1001), .int .i64 (-9223372036854775808), .int .i64 1000] 3)).drew lo v xs := ho.below ((Below.refl _ _).alloc (Nat.le_refl _) _).drew
  refine (pick_reads _ rb q (hr.below ((Below.refl _ _).alloc hr.lt _).drew) hq 4 (by omega) (by omega)).mono ?_
  rintro e w4 ⟨x, rfl, hx, r4, g4⟩
  have hx3 : x < 4 := by omega
  obtain ⟨u, hu, hu2⟩ := lit4 (w := w3) (a := 1001) (b := -1001) (c := -9223372036854775808) (d := 1000) rfl ⟨g4.os, g4.tape, g4.output, g4.size, g4.block⟩ hr.lt hx3
  obtain ⟨o4, b4⟩ := grown_own ho3 hb3 g4 hlo hle hb3.size
  exact ⟨x, u, rfl, hx3, hu, hu2, o4, b4⟩
theorem pickB4 (w w3 : World) (rb q lo : Nat) (v : Value) (xs : List Int) (hr : Reads w3 rb q) (hq : q ≤ 1000000) (hb : Below w.heap.size w w3) (hle : w.heap.size ≤ rb) (ho : Own w3 lo v xs) (hlo : rb < lo) :
    Calls Try.prog 35 #[.pointer (some ⟨rb, 0, none⟩), .int .i64 4] w3.drew fun e w4 => ∃ x : Nat, e = .returned (.int .i64 x) ∧ x < 4 ∧ Own w4 lo v xs ∧ Below w.heap.size w w4 := by
  have hb3 : Below w.heap.size w w3.drew := hb.drew
  have ho3 : Own w3.drew lo v xs := ho.below (Below.refl _ _).drew
  refine (pick_reads _ rb q (hr.below (Below.refl _ _).drew) hq 4 (by omega) (by omega)).mono ?_
  rintro e w4 ⟨x, rfl, hx, r4, g4⟩
  obtain ⟨o4, b4⟩ := grown_own ho3 hb3 g4 hlo hle hb3.size
  exact ⟨x, rfl, by omega, o4, b4⟩

set_option maxHeartbeats 1600000 in
theorem drawPower_any (w : World) (A : Option Addr) (n c : Nat) (bs : List Int) (h : RdB w A n bs) (hn : n ≤ 1048576) (hc : n ≤ c) :
    Calls Try.prog 8 #[.slice A n c] w fun x w' => ∃ (v : Value) (ys : List Int) (k : Int), x = .returned (.tuple #[v, .int .i64 k]) ∧ Own w' w.heap.size v ys ∧ ys.length ≤ 1000 ∧ (Lit.int .i64 k).wf = true ∧ Below w.heap.size w w' := by
  have hwf : ∀ u : Int, -9223372036854775808 ≤ u ∧ u ≤ 2000 → (Lit.int .i64 u).wf = true := fun u hu => by
    simp [Lit.wf, IntKind.min, IntKind.max, IntKind.bits, IntKind.signed]; omega
  have HWF := Lib.hid hwf; clear hwf
  go_enter Try.func8, Try.ntmps8
  go_wp2_with fail
  refine (open_reads w A n c bs h hn hc).mono ?_
  rintro e w1 ⟨rfl, r1, b1, s1⟩
  have HB1 := Lib.hid b1; have HS1 := Lib.hid b1.size; clear b1
  go_wp2_with fail
  refine (some_reads w1 w.heap.size 0 8 r1 (by omega) (by omega) (by omega)).mono ?_
  rintro e w2 ⟨v, ys, rfl, o, hl, g2, q2, hq2, r2⟩
  have HB2 : Hid (Below w.heap.size w w2) := HB1.out.grown g2 HB1.out.size (fun k e => by cases e; exact Nat.le_refl _)
  have HR2 := Lib.hid r2; have HO2 := Lib.hid o; clear r1 r2 g2 o
  go_wp2_with fail
  refine (pick_reads w2 w.heap.size q2 HR2.out (by omega) 16 (by omega) (by omega)).mono ?_
  rintro e w3 ⟨x2, rfl, hx2, r3, g3⟩
  obtain ⟨o3, b3⟩ := grown_own HO2.out HB2.out g3 (by omega) (Nat.le_refl _) HB2.out.size
  have HR3 := Lib.hid r3; have HO3 := Lib.hid o3; have HB3 := Lib.hid b3; clear r3 g3 o3 b3
  by_cases h0 : x2 = 0
  · subst h0
    have PA := Lib.hid (pickA4 w w3 w.heap.size (q2 + 1) w1.heap.size v ys HR3.out (by omega) HB3.out (Nat.le_refl _) HO3.out s1)
    have PB := Lib.hid (pickB4 w w3 w.heap.size (q2 + 1) w1.heap.size v ys HR3.out (by omega) HB3.out (Nat.le_refl _) HO3.out s1)
    go_wp2_with fail
    go_region_with (first
      | (go_at_call 35; refine PA.out.mono ?_; rintro e w4 ⟨x3, u, rfl, hx3, hu, hu2, o4, b4⟩; have HU := Lib.hid hu2; have HB4 := Lib.hid b4; have HO4 := Lib.hid o4; clear hu2 b4 o4)
      | (go_at_call 35; refine PB.out.mono ?_; rintro e w4 ⟨x3, rfl, hx3, o4, b4⟩; have HB4 := Lib.hid b4; have HO4 := Lib.hid o4; clear b4 o4)
      | fail)
    all_goals rcases (show x3 = 0 ∨ x3 = 1 ∨ x3 = 2 ∨ x3 = 3 by omega) with rfl | rfl | rfl | rfl
    all_goals go_wp2_with fail
    all_goals go_ret2
    all_goals first
      | exact ⟨_, _, _, rfl, HO4.out.mono (Nat.le_of_lt s1), by omega, HWF.out _ (by rcases HU.out with rfl | rfl | rfl | rfl <;> omega), HB4.out⟩
      | exact ⟨_, _, _, rfl, (HO4.out.below ((Below.refl _ _).alloc (Nat.le_refl _) _)).mono (Nat.le_of_lt s1), by omega, HWF.out _ (by omega), HB4.out.alloc HB4.out.size _⟩
      | exact ⟨_, _, _, rfl, (HO4.out.below ((Below.refl _ _).alloc (Nat.le_refl _) _).drew).mono (Nat.le_of_lt s1), by omega, HWF.out _ (by omega), (HB4.out.alloc HB4.out.size _).drew⟩
  · have hz : ((x2 : Int) == 0) = false := by simp [h0]
    go_wp2_with fail
    refine (pick_reads w3 w.heap.size (q2 + 1) HR3.out (by omega) 31 (by omega) (by omega)).mono ?_
    rintro e w4 ⟨x3, rfl, hx3, r4, g4⟩
    obtain ⟨o4, b4⟩ := grown_own HO3.out HB3.out g4 (by omega) (Nat.le_refl _) HB3.out.size
    have HB4 := Lib.hid b4; have HO4 := Lib.hid o4; clear r4 g4 o4 b4
    go_wp2_with fail
    go_ret2
    exact ⟨_, _, _, rfl, HO4.out.mono (Nat.le_of_lt s1), by omega, HWF.out _ (by omega), HB4.out⟩

end Go.Proofs.Ytppblbmnjglhbaa
