/-
  The order of two maps: the model's and the program's.
-/
import Derived.Test.YtjpebcomecoheaaCmp
import Derived.Deep.RegionHeld3
namespace Go.Proofs.Ytjpebcomecoheaa
open Go.RowKit

theorem l2Order_lit (A B : Option Addr) (n c d : Nat) (a b : List Int) (w : World) (h : Rd w A n a) (k : Rd w B n b) (hn : n ≤ 12) {r : Int} (hr : cmpL a b = r) :
    Calls Try.prog 116 #[.slice A n c, .slice B n d] w fun e w' => e = .returned (.int .i64 r) ∧ ∃ q, w' = w.drewN q := by
  subst hr; exact l2Order_any A B n c d a b w h k hn

set_option maxHeartbeats 400000 in
theorem l2Before_lit (w : World) (A A' B B' : Option Addr) (n c c' d d' : Nat) (t f t' f' : List Int) (h : Rd w A n t) (h' : Rd w A' n f) (k : Rd w B n t') (k' : Rd w B' n f') (hn : n ≤ 12) {r : Int} (hr : cmpM t f t' f' = r) :
    Calls Try.prog 93 #[.agg #[.slice A n c, .slice A' n c'], .agg #[.slice B n d, .slice B' n d']] w fun e w' => e = .returned (.int .i64 r) ∧ Below w.heap.size w w' := by
  obtain ⟨W0, hW0, hx, hy, hbl, hz⟩ := two_boxes w 38 38 (.slice A n c) (.slice A' n c') (.slice B n d) (.slice B' n d')
  have c0 := hx.cell0
  have c1 := hx.cell1
  have d0 := hy.cell0
  have d1 := hy.cell1
  have HX := Lib.hid hx; have HY := Lib.hid hy; have HB := Lib.hid hbl; have H := Lib.hid h; have H' := Lib.hid h'; have K := Lib.hid k; have K' := Lib.hid k'; clear hx hy hbl hz h h' k k'
  unfold cmpM at hr
  by_cases e : cmpL t t' = 0
  · rw [if_pos e] at hr
    have E := Lib.hid e; have HR := Lib.hid hr; clear e hr
    go_enter Try.func93, Try.ntmps93
    go_wp2_with fail
    refine (l2Order_lit A B n c d t t' _ (H.out.below HB.out) (K.out.below HB.out) hn E.out).mono ?_
    rintro e w1 ⟨rfl, q, rfl⟩
    have c2 := (HX.out.drewN q).cell1
    have d2 := (HY.out.drewN q).cell1
    go_wp2_with fail
    refine (l2Order_lit A' B' n c' d' f f' _ ((H'.out.below HB.out).drewN q) ((K'.out.below HB.out).drewN q) hn HR.out).mono ?_
    rintro e w2 ⟨rfl, q', rfl⟩
    go_wp2
    go_ret
    exact ⟨rfl, below_drewN HB.out _⟩
  · rw [if_neg e] at hr
    have hd : (r != 0) = true := by rw [← hr]; simpa using e
    have HR := Lib.hid hr; clear e hr
    go_enter Try.func93, Try.ntmps93
    go_wp2_with fail
    refine (l2Order_lit A B n c d t t' _ (H.out.below HB.out) (K.out.below HB.out) hn HR.out).mono ?_
    rintro e w1 ⟨rfl, q, rfl⟩
    go_wp2
    go_ret
    exact ⟨rfl, below_drewN HB.out q⟩

theorem own_lit2 (w : World) (x y : Int) : Own (w.alloc (.cells #[.int .i64 x, .int .i64 y] 3)) w.heap.size (.slice (some ⟨w.heap.size, 0, none⟩) 2 2) [x, y] := by
  have hz : 2 ≤ maxLen := by unfold maxLen; omega
  have h := World.ownsRow_lit (base := w.heap.size) (e := 3) (size := 1) w #[.int .i64 x, .int .i64 y] 2 (Nat.le_refl _) hz (by simp)
  exact h
theorem rd_lit2 (w : World) (x y : Int) : Rd (w.alloc (.cells #[.int .i64 x, .int .i64 y] 3)) (some ⟨w.heap.size, 0, none⟩) 2 [x, y] := by
  obtain ⟨W, hW⟩ : ∃ W, w.alloc (.cells #[.int .i64 x, .int .i64 y] 3) = W := ⟨_, rfl⟩
  have o := own_lit2 w x y
  rw [hW] at o ⊢
  exact Own.rd o rfl

theorem rd_lit2d (w : World) (q : Nat) (x y : Int) : Rd ((w.drewN q).alloc (.cells #[.int .i64 x, .int .i64 y] 3)) (some ⟨w.heap.size, 0, none⟩) 2 [x, y] := rd_lit2 (w.drewN q) x y

set_option maxHeartbeats 400000 in
theorem compare_lit (w : World) (x y : Nat) (A A' B B' : Option Addr) (n c c' d d' : Nat) (t f t' f' : List Int) (hx : Box2 w x A n c A' n c') (hy : Box2 w y B n d B' n d') (h : Rd w A n t) (h' : Rd w A' n f) (k : Rd w B n t') (k' : Rd w B' n f') (hn : n ≤ 12) {r : Int} (hr : cmpM t f t' f' = r) :
    Calls Try.prog 97 #[.pointer (some ⟨x, 0, none⟩), .pointer (some ⟨y, 0, none⟩)] w fun e w' => e = .returned (.int .i64 r) ∧ Below w.heap.size w w' := by
  have c0 := hx.cell0
  have c1 := hx.cell1
  have d0 := hy.cell0
  have d1 := hy.cell1
  have HX := Lib.hid hx; have HY := Lib.hid hy
  have HR : Hid ((if cmpL t t' = 0 then cmpL f f' else cmpL t t') = r) := hr
  have H := Lib.hid h; have H' := Lib.hid h'; have K := Lib.hid k; have K' := Lib.hid k'; clear hx hy h h' k k' hr
  go_enter Try.func97, Try.ntmps97
  go_wp2_with fail
  go_region_held3 (fun w' => w'.cell? ⟨x, 0, none⟩ = some (.slice A n c) ∧ w'.cell? ⟨x, 1, none⟩ = some (.slice A' n c') ∧ w'.cell? ⟨y, 0, none⟩ = some (.slice B n d) ∧ w'.cell? ⟨y, 1, none⟩ = some (.slice B' n d')) (first | go_keep | exact ⟨(HX.out.below ((below_drewN (Below.refl _ w) _).alloc (Nat.le_refl _) _)).cell0, (HX.out.below ((below_drewN (Below.refl _ w) _).alloc (Nat.le_refl _) _)).cell1, (HY.out.below ((below_drewN (Below.refl _ w) _).alloc (Nat.le_refl _) _)).cell0, (HY.out.below ((below_drewN (Below.refl _ w) _).alloc (Nat.le_refl _) _)).cell1⟩) (first
    | (have hchk := HC1.out; clear hchk; go_at_call 118; refine (sCompare_any A' B' n c' d' f f' _ (H'.out.drewN _) (K'.out.drewN _) hn).mono ?_; rintro e w' ⟨rfl, rfl⟩)
    | (go_at_call 118; refine (sCompare_any A B n c d t t' _ (H.out.drewN _) (K.out.drewN _) hn).mono ?_; rintro e w' ⟨rfl, rfl⟩; have HC1 : Hid True := trivial)
    | (go_at_call 117; refine (cOr_any _ 2 (cmpL t t') (cmpL f f') _ (rd_lit2d w _ _ _) HR.out).mono ?_; rintro e w' ⟨rfl, rfl⟩))
  all_goals
    go_wp2
    go_ret
    exact ⟨rfl, (below_drewN (Below.refl _ w) _).alloc (Nat.le_refl _) _⟩

end Go.Proofs.Ytjpebcomecoheaa
