/-
  The order of two lists and of two maps: the plain one, the model's and the program's.
  The order of two maps: the model's and the program's.
-/
import Derived.Test.YtakckkmhhedfpaaFormR
import Derived.Deep.RegionWith
import Derived.Deep.RegionHeld3
namespace Go.Proofs.Ytakckkmhhedfpaa
open Go.RowKit

/-- The order of two maps: by Turn, and of equal ones by Flip. -/
def cmpM (t f t' f' : List Int) : Int := if cmpL t t' = 0 then cmpL f f' else cmpL t t'
theorem cmpM_zero {t f t' f' : List Int} (ht : t.length = t'.length) (hf : f.length = f'.length) : cmpM t f t' f' = 0 ↔ t = t' ∧ f = f' := by
  constructor
  · intro h
    unfold cmpM at h
    by_cases e : cmpL t t' = 0
    · rw [if_pos e] at h; exact ⟨cmpL_zero ht e, cmpL_zero hf h⟩
    · rw [if_neg e] at h; exact absurd h e
  · rintro ⟨rfl, rfl⟩
    rw [cmpM, cmpL_self, if_pos rfl, cmpL_self]

theorem isNaN_any (x : Int) (w : World) : Calls Try.prog 136 #[.int .i64 x] w fun e w' => e = .returned (.bool false) ∧ w = w' := by
  have hd : (x != x) = false := by simp
  go_enter Try.func136, Try.ntmps136
  go_wp2
  go_ret
  exact ⟨rfl, rfl⟩
set_option maxHeartbeats 800000 in
theorem cCompare_lit (x y : Int) (w : World) {r : Int} (hr : (if x < y then -1 else if y < x then 1 else 0) = r) : Calls Try.prog 122 #[.int .i64 x, .int .i64 y] w fun e w' => e = .returned (.int .i64 r) ∧ w = w' := by
  by_cases h1 : x < y
  · rw [if_pos h1] at hr; subst hr
    go_enter Try.func122, Try.ntmps122
    go_wp2_with (go_at_call 136; refine (isNaN_any _ _).mono ?_; rintro e w' ⟨rfl, rfl⟩)
    go_ret
    exact ⟨rfl, rfl⟩
  · by_cases h2 : y < x
    · rw [if_neg h1, if_pos h2] at hr; subst hr
      go_enter Try.func122, Try.ntmps122
      go_wp2_with (go_at_call 136; refine (isNaN_any _ _).mono ?_; rintro e w' ⟨rfl, rfl⟩)
      go_ret
      exact ⟨rfl, rfl⟩
    · rw [if_neg h1, if_neg h2] at hr; subst hr
      go_enter Try.func122, Try.ntmps122
      go_wp2_with (go_at_call 136; refine (isNaN_any _ _).mono ?_; rintro e w' ⟨rfl, rfl⟩)
      go_ret
      exact ⟨rfl, rfl⟩

set_option maxHeartbeats 1600000 in
theorem sCompare_any (A B : Option Addr) (n c d : Nat) (a b : List Int) (w : World) (h : Rd w A n a) (k : Rd w B n b) (hn : n ≤ 12) :
    Calls Try.prog 109 #[.slice A n c, .slice B n d] w fun e w' => e = .returned (.int .i64 (cmpL a b)) ∧ w = w' := by
  have H := Lib.hid h; have K := Lib.hid k; have Hx := Lib.hid h.1; have Hy := Lib.hid k.1; clear h k
  go_enter Try.func109, Try.ntmps109
  go_wp2
  go_loop [11] (fun i => ∃ k : Nat, k ≤ n ∧ i = .int .i64 k ∧ Hid (∀ j, j < k → gi a j = gi b j)) (fun i => n - (intOf i).toNat)
  case atStart => exact ⟨0, Nat.zero_le _, rfl, fun j hj => absurd hj (by omega)⟩
  case round =>
    obtain ⟨k, hk, rfl, hall⟩ := hrel
    by_cases hlt : k < n
    · obtain ⟨ad, rfl, hc⟩ := H.out.at_ hlt
      obtain ⟨bd, rfl, hc'⟩ := K.out.at_ hlt
      by_cases h1 : gi a k < gi b k
      · have HR : Hid ((if gi a k < gi b k then (-1 : Int) else if gi b k < gi a k then 1 else 0) = -1) := if_pos h1
        have H1 := Lib.hid h1; clear h1
        go_wp2_with (go_at_call 122; refine (cCompare_lit _ _ _ HR.out).mono ?_; rintro e w' ⟨rfl, rfl⟩)
        go_ret
        exact ⟨ret_int (cmpL_lt (by rw [Hx.out]; exact hlt) (Hx.out.trans Hy.out.symm) hall.out H1.out).symm, rfl⟩
      · by_cases h2 : gi b k < gi a k
        · have HR : Hid ((if gi a k < gi b k then (-1 : Int) else if gi b k < gi a k then 1 else 0) = 1) := by rw [Hid, if_neg h1, if_pos h2]
          have H1 := Lib.hid h2; clear h1 h2
          go_wp2_with (go_at_call 122; refine (cCompare_lit _ _ _ HR.out).mono ?_; rintro e w' ⟨rfl, rfl⟩)
          go_ret
          exact ⟨ret_int (cmpL_gt (by rw [Hx.out]; exact hlt) (Hx.out.trans Hy.out.symm) hall.out H1.out).symm, rfl⟩
        · have HR : Hid ((if gi a k < gi b k then (-1 : Int) else if gi b k < gi a k then 1 else 0) = 0) := by rw [Hid, if_neg h1, if_neg h2]
          have HE : Hid (gi a k = gi b k) := by rw [Hid]; omega
          clear h1 h2
          go_wp2_with (go_at_call 122; refine (cCompare_lit _ _ _ HR.out).mono ?_; rintro e w' ⟨rfl, rfl⟩)
          go_round
          case rel => exact ⟨k + 1, by omega, by go_num, fun j hj => by
            by_cases e : j = k
            · subst e; exact HE.out
            · exact hall.out j (by omega)⟩
          case measure => simp [intOf]; omega
    · have hkn : k = n := by omega
      subst hkn
      go_wp2
      go_ret
      exact ⟨ret_int (cmpL_all (Hx.out.trans Hy.out.symm) (fun j hj => hall.out j (by rw [Hx.out] at hj; exact hj))).symm, rfl⟩

set_option maxHeartbeats 1600000 in
/-- The first of two numbers that is not 0. -/
theorem cOr_any (A : Option Addr) (c : Nat) (x y : Int) (w : World) (h : Rd w A 2 [x, y]) {r : Int} (hr : (if x = 0 then y else x) = r) :
    Calls Try.prog 108 #[.slice A 2 c] w fun e w' => e = .returned (.int .i64 r) ∧ w = w' := by
  have H := Lib.hid h; have HR := Lib.hid hr; clear h hr
  go_enter Try.func108, Try.ntmps108
  go_wp2
  go_loop [8] (fun i => ∃ k : Nat, k ≤ 2 ∧ i = .int .i64 k ∧ Hid (∀ j, j < k → gi [x, y] j = 0)) (fun i => 2 - (intOf i).toNat)
  case atStart => exact ⟨0, Nat.zero_le _, rfl, fun j hj => absurd hj (by omega)⟩
  case round =>
    obtain ⟨k, hk, rfl, hall⟩ := hrel
    by_cases hlt : k < 2
    · obtain ⟨ad, rfl, hc⟩ := H.out.at_ hlt
      by_cases h1 : gi [x, y] k = 0
      · have hd : (gi [x, y] k != 0) = false := by simp [h1]
        have HE := Lib.hid h1; clear h1
        go_wp2
        go_round
        case rel => exact ⟨k + 1, by omega, by go_num, fun j hj => by
          by_cases e : j = k
          · subst e; exact HE.out
          · exact hall.out j (by omega)⟩
        case measure => simp [intOf]; omega
      · have hd : (gi [x, y] k != 0) = true := by simp [h1]
        have HE := Lib.hid h1; clear h1
        go_wp2
        go_ret
        refine ⟨ret_int ?_, rfl⟩
        rcases (show k = 0 ∨ k = 1 by omega) with e | e
        · subst e
          have h0 : x ≠ 0 := HE.out
          rw [← HR.out, if_neg h0]; rfl
        · subst e
          have h0 : x = 0 := hall.out 0 (by omega)
          rw [← HR.out, if_pos h0]; rfl
    · have hkn : k = 2 := by omega
      subst hkn
      go_wp2
      go_ret
      have h0 : x = 0 := hall.out 0 (by omega)
      have h1 : y = 0 := hall.out 1 (by omega)
      exact ⟨ret_int (by rw [← HR.out, if_pos h0, h1]), rfl⟩

end Go.Proofs.Ytakckkmhhedfpaa

namespace Go.Proofs.Ytakckkmhhedfpaa
open Go.RowKit

set_option maxHeartbeats 400000 in
theorem l2Before_lit (w : World) (A A' B B' : Option Addr) (n c c' d d' : Nat) (t f t' f' : List Int) (h : Rd w A n t) (h' : Rd w A' n f) (k : Rd w B n t') (k' : Rd w B' n f') (hn : n ≤ 12) {r : Int} (hr : cmpM t f t' f' = r) :
    Calls Try.prog 81 #[.agg #[.slice A n c, .slice A' n c'], .agg #[.slice B n d, .slice B' n d']] w fun e w' => e = .returned (.int .i64 r) ∧ Below w.heap.size w w' := by
  obtain ⟨W0, hW0, hx, hy, hbl, hz⟩ := two_boxes w 35 35 (.slice A n c) (.slice A' n c') (.slice B n d) (.slice B' n d')
  have c0 := hx.cell0
  have c1 := hx.cell1
  have d0 := hy.cell0
  have d1 := hy.cell1
  have HX := Lib.hid hx; have HY := Lib.hid hy; have HB := Lib.hid hbl; have H := Lib.hid h; have H' := Lib.hid h'; have K := Lib.hid k; have K' := Lib.hid k'; clear hx hy hbl hz h h' k k'
  unfold cmpM at hr
  by_cases e : cmpL t t' = 0
  · rw [if_pos e] at hr
    have E := Lib.hid e; have HR := Lib.hid hr; clear e hr
    go_enter Try.func81, Try.ntmps81
    go_wp2_with fail
    refine (l2Order_lit A B n c d t t' _ (H.out.below HB.out) (K.out.below HB.out) hn E.out).mono ?_
    rintro e w1 ⟨rfl, q, rfl⟩
    have c2 := (HX.out.drewN q).cell1
    have d2 := (HY.out.drewN q).cell1
    go_wp2_with fail
    refine (l2Order_lit A' B' n c' d' f f' _ ((H'.out.below HB.out).drewN q) ((K'.out.below HB.out).drewN q) hn HR.out).mono ?_
    rintro e w2 ⟨rfl, q', rfl⟩
    go_wp2
    go_ret
    exact ⟨rfl, below_drewN HB.out _⟩
  · rw [if_neg e] at hr
    have hd : (r != 0) = true := by rw [← hr]; simpa using e
    have HR := Lib.hid hr; clear e hr
    go_enter Try.func81, Try.ntmps81
    go_wp2_with fail
    refine (l2Order_lit A B n c d t t' _ (H.out.below HB.out) (K.out.below HB.out) hn HR.out).mono ?_
    rintro e w1 ⟨rfl, q, rfl⟩
    go_wp2
    go_ret
    exact ⟨rfl, below_drewN HB.out q⟩

theorem own_lit2 (w : World) (x y : Int) : Own (w.alloc (.cells #[.int .i64 x, .int .i64 y] 3)) w.heap.size (.slice (some ⟨w.heap.size, 0, none⟩) 2 2) [x, y] := by
  have hz : 2 ≤ maxLen := by unfold maxLen; omega
  have h := World.ownsRow_lit (base := w.heap.size) (e := 3) (size := 1) w #[.int .i64 x, .int .i64 y] 2 (Nat.le_refl _) hz (by simp)
  exact h
theorem rd_lit2 (w : World) (x y : Int) : Rd (w.alloc (.cells #[.int .i64 x, .int .i64 y] 3)) (some ⟨w.heap.size, 0, none⟩) 2 [x, y] := by
  obtain ⟨W, hW⟩ : ∃ W, w.alloc (.cells #[.int .i64 x, .int .i64 y] 3) = W := ⟨_, rfl⟩
  have o := own_lit2 w x y
  rw [hW] at o ⊢
  exact Own.rd o rfl

theorem rd_lit2d (w : World) (q : Nat) (x y : Int) : Rd ((w.drewN q).alloc (.cells #[.int .i64 x, .int .i64 y] 3)) (some ⟨w.heap.size, 0, none⟩) 2 [x, y] := rd_lit2 (w.drewN q) x y

set_option maxHeartbeats 400000 in
theorem compare_lit (w : World) (x y : Nat) (A A' B B' : Option Addr) (n c c' d d' : Nat) (t f t' f' : List Int) (hx : Box2 w x A n c A' n c') (hy : Box2 w y B n d B' n d') (h : Rd w A n t) (h' : Rd w A' n f) (k : Rd w B n t') (k' : Rd w B' n f') (hn : n ≤ 12) {r : Int} (hr : cmpM t f t' f' = r) :
    Calls Try.prog 80 #[.pointer (some ⟨x, 0, none⟩), .pointer (some ⟨y, 0, none⟩)] w fun e w' => e = .returned (.int .i64 r) ∧ Below w.heap.size w w' := by
  have c0 := hx.cell0
  have c1 := hx.cell1
  have d0 := hy.cell0
  have d1 := hy.cell1
  have HX := Lib.hid hx; have HY := Lib.hid hy
  have HR : Hid ((if cmpL t t' = 0 then cmpL f f' else cmpL t t') = r) := hr
  have H := Lib.hid h; have H' := Lib.hid h'; have K := Lib.hid k; have K' := Lib.hid k'; clear hx hy h h' k k' hr
  go_enter Try.func80, Try.ntmps80
  go_wp2_with fail
  go_region_held3 (fun w' => w'.cell? ⟨x, 0, none⟩ = some (.slice A n c) ∧ w'.cell? ⟨x, 1, none⟩ = some (.slice A' n c') ∧ w'.cell? ⟨y, 0, none⟩ = some (.slice B n d) ∧ w'.cell? ⟨y, 1, none⟩ = some (.slice B' n d')) (first | go_keep | exact ⟨(HX.out.below ((below_drewN (Below.refl _ w) _).alloc (Nat.le_refl _) _)).cell0, (HX.out.below ((below_drewN (Below.refl _ w) _).alloc (Nat.le_refl _) _)).cell1, (HY.out.below ((below_drewN (Below.refl _ w) _).alloc (Nat.le_refl _) _)).cell0, (HY.out.below ((below_drewN (Below.refl _ w) _).alloc (Nat.le_refl _) _)).cell1⟩) (first
    | (have hchk := HC1.out; clear hchk; go_at_call 109; refine (sCompare_any A' B' n c' d' f f' _ (H'.out.drewN _) (K'.out.drewN _) hn).mono ?_; rintro e w' ⟨rfl, rfl⟩)
    | (go_at_call 109; refine (sCompare_any A B n c d t t' _ (H.out.drewN _) (K.out.drewN _) hn).mono ?_; rintro e w' ⟨rfl, rfl⟩; have HC1 : Hid True := trivial)
    | (go_at_call 108; refine (cOr_any _ 2 (cmpL t t') (cmpL f f') _ (rd_lit2d w _ _ _) HR.out).mono ?_; rintro e w' ⟨rfl, rfl⟩))
  all_goals
    go_wp2
    go_ret
    exact ⟨rfl, (below_drewN (Below.refl _ w) _).alloc (Nat.le_refl _) _⟩

end Go.Proofs.Ytakckkmhhedfpaa
