/-
  PermValid, the model's and the program's: both tell whether a list has 1 to 12 numbers below its length, no two equal.
  PermMul, PermBack, PermConj, the model's and the program's, and what they call.
-/
import Derived.Test.YtcenffndclpjoaaKit
import Derived.RegionTactic
import Derived.ChangeAlike
namespace Go.Proofs.Ytcenffndclpjoaa
open Go.RowKit


theorem l6In_any (x lo hi : Int) (w : World) :
    Calls Try.prog 51 #[.int .i64 x, .int .i64 lo, .int .i64 hi] w fun e w' => e = .returned (.bool (inB x lo hi)) ∧ w = w' := by
  by_cases h : lo ≤ x
  · by_cases h' : x ≤ hi
    · have E := Lib.hid (inB_true h h')
      go_enter Try.func51, Try.ntmps51
      go_wp2
      go_ret
      exact ⟨ret_bool (by rw [E.out]), rfl⟩
    · have E := Lib.hid (inB_false (x := x) (lo := lo) (hi := hi) (fun e => h' e.2))
      go_enter Try.func51, Try.ntmps51
      go_wp2
      go_ret
      exact ⟨ret_bool (by rw [E.out]), rfl⟩
  · have E := Lib.hid (inB_false (x := x) (lo := lo) (hi := hi) (fun e => h e.1))
    go_enter Try.func51, Try.ntmps51
    go_wp2
    go_ret
    exact ⟨ret_bool (by rw [E.out]), rfl⟩

set_option maxHeartbeats 800000 in
theorem specValid_any (A : Option Addr) (n c : Nat) (xs : List Int) (w : World) (h : Rd w A n xs) (hn : n ≤ 17592186044416) :
    Calls Try.prog 88 #[.slice A n c] w fun e w' => e = .returned (.bool (vld xs)) ∧ ∃ q, w' = w.drewN q := by
  have hxl := h.1
  have H := Lib.hid h; clear h
  have Hx := Lib.hid hxl; clear hxl
  go_enter Try.func88, Try.ntmps88
  go_wp2_with fail
  go_loopw [3, 4] (fun i _ wr => ∃ k q : Nat, k ≤ n ∧ i = .int .i64 k ∧ wr = w.drewN q ∧ Hid ((∀ j, j < k → 0 ≤ gi xs j ∧ gi xs j < n) ∧ ∀ j, j < k → ∀ i, i < j → gi xs i ≠ gi xs j)) (fun i _ _ => n - (intOf i).toNat)
  case atStart => exact ⟨0, 0, Nat.zero_le _, rfl, rfl, ⟨fun j hj => absurd hj (by omega), fun j hj => absurd hj (by omega)⟩⟩
  case round =>
    obtain ⟨k, q, hk, rfl, rfl, hall⟩ := hrel
    by_cases hlt : k < n
    · obtain ⟨ad, rfl, hc⟩ := H.out.at_ hlt
      by_cases hin : 0 ≤ gi xs k ∧ gi xs k ≤ (n : Int) - 1
      · have hb := inB_true hin.1 hin.2
        have HI := Lib.hid hin; clear hin
        go_wp2_with (go_at_call 51; refine (l6In_any _ _ _ _).mono ?_; rintro e w' ⟨rfl, rfl⟩)
        go_loopw [4] (fun i wr => ∃ m q' : Nat, m ≤ k ∧ i = .int .i64 m ∧ wr = w.drewN q' ∧ Hid (∀ i, i < m → gi xs i ≠ gi xs k)) (fun i _ => k - (intOf i).toNat)
        case atStart => exact ⟨0, q, Nat.zero_le _, rfl, rfl, fun j hj => absurd hj (by omega)⟩
        case round =>
          obtain ⟨m, q', hm, rfl, rfl, hne⟩ := hrel
          by_cases hlt' : m < k
          · obtain ⟨ad', hA, hc'⟩ := H.out.at_ (Nat.lt_trans hlt' hlt)
            simp only [Option.some.injEq] at hA
            subst hA
            by_cases he : gi xs m = gi xs k
            · have he' : (gi xs m == gi xs k) = true := by simp [he]
              have HE := Lib.hid he; clear he
              go_wp2
              go_quiet (fail)
              go_wp2
              go_ret
              exact ⟨ret_bool (vld_false (fun v => v.2.2.2 k (by rw [Hx.out]; exact hlt) m hlt' HE.out)).symm, q' + _, World.drewN_drewN _ _ _⟩
            · have he' : (gi xs m == gi xs k) = false := by simp [he]
              have HE := Lib.hid he; clear he
              go_wp2
              go_quiet (fail)
              go_wp2
              go_roundw
              case rel => exact ⟨m + 1, q' + _, by omega, by go_num, rfl, fun j hj => by
                by_cases e : j = m
                · subst e; exact HE.out
                · exact hne.out j (by omega)⟩
              case measure => simp [intOf]; omega
          · go_wp2
            go_roundw
            case rel => exact ⟨k + 1, q', by omega, by go_num, rfl, ⟨fun j hj => by
                by_cases e : j = k
                · subst e; have := HI.out; omega
                · exact hall.out.1 j (by omega), fun j hj i hi => by
                by_cases e : j = k
                · subst e; exact hne.out i (by omega)
                · exact hall.out.2 j (by omega) i hi⟩⟩
            case measure => simp [intOf]; omega
      · have hb := inB_false hin
        have HI := Lib.hid hin; clear hin
        go_wp2_with (go_at_call 51; refine (l6In_any _ _ _ _).mono ?_; rintro e w' ⟨rfl, rfl⟩)
        go_ret
        exact ⟨ret_bool (vld_false (fun v => HI.out (by have := v.2.2.1 k (by rw [Hx.out]; exact hlt); rw [Hx.out] at this; omega))).symm, _, rfl⟩
    · go_wp2_with (go_at_call 51; refine (l6In_any _ _ _ _).mono ?_; rintro e w' ⟨rfl, rfl⟩)
      go_ret
      refine ⟨ret_bool ?_, _, rfl⟩
      by_cases hi : (1 : Int) ≤ n ∧ (n : Int) ≤ 12
      · rw [inB_true hi.1 hi.2, vld_true]
        exact ⟨by rw [Hx.out]; omega, by rw [Hx.out]; omega, fun j hj => by rw [Hx.out] at hj ⊢; exact hall.out.1 j (by omega), fun j hj => by rw [Hx.out] at hj; exact hall.out.2 j (by omega)⟩
      · rw [inB_false hi, vld_false]
        intro v; apply hi; have := v.1; have := v.2.1; rw [Hx.out] at *; omega

theorem specValid_b (A : Option Addr) (n c : Nat) (xs : List Int) (w : World) (h : Rd w A n xs) (hn : n ≤ 17592186044416) :
    Calls Try.prog 88 #[.slice A n c] w fun e w' => e = .returned (.bool (vld xs)) ∧ Below w.heap.size w w' :=
  (specValid_any A n c xs w h hn).mono fun _ _ ⟨he, k, hw⟩ => ⟨he, hw ▸ below_drewN (Below.refl _ _) k⟩

def seenB (xs : List Int) (k j : Nat) : Bool := (List.range k).any fun i => gi xs i == (j : Int)
theorem seenB_iff {xs : List Int} {k j : Nat} : seenB xs k j = true ↔ ∃ i, i < k ∧ gi xs i = (j : Int) := by simp [seenB]
theorem seenB_true {xs : List Int} {k j : Nat} (h : ∃ i, i < k ∧ gi xs i = (j : Int)) : seenB xs k j = true := seenB_iff.2 h
theorem seenB_false {xs : List Int} {k j : Nat} (h : ¬ ∃ i, i < k ∧ gi xs i = (j : Int)) : seenB xs k j = false := by
  rw [Bool.eq_false_iff]; exact fun e => h (seenB_iff.1 e)
/-- Twelve bools of a block of one's own, as the first k of xs have marked them. -/
def Seen (w : World) (b : Nat) (xs : List Int) (k : Nat) : Prop :=
  ∃ cs : Array Value, w.heap[b]? = some (.cells cs 100 (0, 0)) ∧ cs.size = 12 ∧ ∀ j : Nat, j < 12 → cs[j]? = some (.bool (seenB xs k j))
theorem Seen.frozen {w : World} {b k : Nat} {xs : List Int} (h : Seen w b xs k) (j : Nat) : w.frozen? ⟨b, j, none⟩ = false := by
  obtain ⟨cs, h, _⟩ := h
  exact frozen_of_row w b j cs _ h
theorem Seen.cell {w : World} {b k : Nat} {xs : List Int} (h : Seen w b xs k) {j : Nat} (hj : j < 12) : w.cell? ⟨b, j, none⟩ = some (.bool (seenB xs k j)) := by
  obtain ⟨cs, h, _, hc⟩ := h
  rw [cell_of_row w b j cs _ (0, 0) h]; exact hc j hj
theorem Seen.new (w : World) (xs : List Int) : Seen (w.alloc (.cells #[.bool false, .bool false, .bool false, .bool false, .bool false, .bool false, .bool false, .bool false, .bool false, .bool false, .bool false, .bool false] 100)) w.heap.size xs 0 := by
  refine ⟨_, heap_alloc_new w _, rfl, fun j hj => ?_⟩
  have : seenB xs 0 j = false := by simp [seenB]
  rw [this]
  match j, hj with
  | 0, _ => rfl
  | 1, _ => rfl
  | 2, _ => rfl
  | 3, _ => rfl
  | 4, _ => rfl
  | 5, _ => rfl
  | 6, _ => rfl
  | 7, _ => rfl
  | 8, _ => rfl
  | 9, _ => rfl
  | 10, _ => rfl
  | 11, _ => rfl
  | _ + 12, h => exact absurd h (by omega)
theorem Seen.set {w : World} {b k x : Nat} {xs : List Int} (h : Seen w b xs k) (hx : gi xs k = (x : Int)) : Seen (w.setCell ⟨b, x, none⟩ (.bool true)) b xs (k + 1) := by
  obtain ⟨cs, h, hs, hc⟩ := h
  refine ⟨cs.setIfInBounds x (.bool true), ?_, by simpa using hs, fun j hj => ?_⟩
  · simp [World.setCell, Array.getElem?_modify, h]
  · rw [Array.getElem?_setIfInBounds]
    by_cases e : x = j
    · subst e
      rw [if_pos rfl, if_pos (by rw [hs]; exact hj)]
      congr 2; symm
      exact seenB_true ⟨k, by omega, hx⟩
    · rw [if_neg e, hc j hj]
      congr 2
      rw [Bool.eq_iff_iff, seenB_iff, seenB_iff]
      constructor
      · rintro ⟨i, hi, he⟩; exact ⟨i, by omega, he⟩
      · rintro ⟨i, hi, he⟩
        refine ⟨i, ?_, he⟩
        rcases Nat.lt_or_ge i k with h | h
        · exact h
        · obtain rfl : i = k := by omega
          rw [hx] at he; omega

set_option maxHeartbeats 800000 in
theorem implValid_in (A : Option Addr) (n c : Nat) (xs : List Int) (w : World) (h : Rd w A n xs) (h1 : 1 ≤ n) (h12 : n ≤ 12) :
    Calls Try.prog 86 #[.slice A n c] w fun e w' => e = .returned (.bool (vld xs)) ∧ Below w.heap.size w w' := by
  have hxl := h.1
  have H := Lib.hid h; clear h
  have Hx := Lib.hid hxl; clear hxl
  have hd1 : decide ((n : Int) < 1) = false := by simp; omega
  have hd2 : decide ((12 : Int) < n) = false := by simp; omega
  go_enter Try.func86, Try.ntmps86
  go_wp2
  go_loopw [16] (fun i wr => ∃ k : Nat, k ≤ n ∧ i = .int .i64 k ∧ Hid (Seen wr w.heap.size xs k ∧ Below w.heap.size w wr) ∧ Hid ((∀ j, j < k → 0 ≤ gi xs j ∧ gi xs j < n) ∧ ∀ j, j < k → ∀ i, i < j → gi xs i ≠ gi xs j)) (fun i _ => n - (intOf i).toNat)
  case atStart => exact ⟨0, Nat.zero_le _, rfl, ⟨Seen.new _ _, (Below.refl _ _).alloc (Nat.le_refl _) _⟩, ⟨fun j hj => absurd hj (by omega), fun j hj => absurd hj (by omega)⟩⟩
  case round =>
    obtain ⟨k, hk, rfl, hs, hall⟩ := hrel
    by_cases hlt : k < n
    · obtain ⟨ad, rfl, hc⟩ := (H.out.below hs.out.2).at_ hlt
      by_cases hin : 0 ≤ gi xs k ∧ gi xs k < (n : Int)
      · obtain ⟨x, hx⟩ := Int.eq_ofNat_of_zero_le hin.1
        have hxn : x < n := by have := hin.2; rw [hx] at this; omega
        have hx12 : x < 12 := by omega
        rw [hx] at hc
        have hcs := hs.out.1.cell hx12
        have hfs := hs.out.1.frozen x
        have hg1 : decide ((x : Int) < 0) = false := by simp
        have hg2 : decide ((n : Int) ≤ x) = false := by simp; omega
        by_cases hsn : ∃ i, i < k ∧ gi xs i = (x : Int)
        · rw [seenB_true hsn] at hcs
          have HX := Lib.hid hx; clear hx
          have HS := Lib.hid hsn; clear hsn
          have HI := Lib.hid hin; clear hin
          go_wp2
          go_ret
          refine ⟨ret_bool (vld_false (fun v => ?_)).symm, hs.out.2⟩
          obtain ⟨i, hi, he⟩ := HS.out
          exact v.2.2.2 k (by rw [Hx.out]; exact hlt) i hi (he.trans HX.out.symm)
        · rw [seenB_false hsn] at hcs
          have HX := Lib.hid hx; clear hx
          have HS := Lib.hid hsn; clear hsn
          have HI := Lib.hid hin; clear hin
          go_wp2
          go_roundw
          case rel => exact ⟨k + 1, by omega, by go_num, ⟨hs.out.1.set HX.out, hs.out.2.setCell (Nat.le_refl _) _⟩, ⟨fun j hj => by
                by_cases e : j = k
                · subst e; exact HI.out
                · exact hall.out.1 j (by omega), fun j hj i hi he => by
                by_cases e : j = k
                · subst e; exact HS.out ⟨i, hi, he.trans HX.out⟩
                · exact hall.out.2 j (by omega) i hi he⟩⟩
          case measure => simp [intOf]; omega
      · by_cases h0 : 0 ≤ gi xs k
        · have hg1 : decide (gi xs k < 0) = false := by simp; omega
          have hg2 : decide ((n : Int) ≤ gi xs k) = true := by simp; omega
          have HI := Lib.hid hin; clear hin
          go_wp2
          go_ret
          exact ⟨ret_bool (vld_false (fun v => HI.out (by have := v.2.2.1 k (by rw [Hx.out]; exact hlt); rw [Hx.out] at this; omega))).symm, hs.out.2⟩
        · have hg1 : decide (gi xs k < 0) = true := by simp; omega
          have HI := Lib.hid hin; clear hin
          go_wp2
          go_ret
          exact ⟨ret_bool (vld_false (fun v => HI.out (by have := v.2.2.1 k (by rw [Hx.out]; exact hlt); rw [Hx.out] at this; omega))).symm, hs.out.2⟩
    · go_wp2
      go_ret
      refine ⟨ret_bool (vld_true ?_).symm, hs.out.2⟩
      exact ⟨by rw [Hx.out]; omega, by rw [Hx.out]; omega, fun j hj => by rw [Hx.out] at hj ⊢; exact hall.out.1 j (by omega), fun j hj => by rw [Hx.out] at hj; exact hall.out.2 j (by omega)⟩

theorem implValid_any (A : Option Addr) (n c : Nat) (xs : List Int) (w : World) (h : Rd w A n xs) (hn : n ≤ 17592186044416) :
    Calls Try.prog 86 #[.slice A n c] w fun e w' => e = .returned (.bool (vld xs)) ∧ Below w.heap.size w w' := by
  by_cases h1 : 1 ≤ n
  · by_cases h12 : n ≤ 12
    · exact implValid_in A n c xs w h h1 h12
    · have E := Lib.hid (vld_false (xs := xs) (fun v => h12 (by have := v.2.1; rw [h.1] at this; exact this)))
      have hd1 : decide ((n : Int) < 1) = false := by simp; omega
      have hd2 : decide ((12 : Int) < n) = true := by simp; omega
      clear h
      go_enter Try.func86, Try.ntmps86
      go_wp2
      go_ret
      exact ⟨ret_bool E.out.symm, Below.refl _ _⟩
  · have E := Lib.hid (vld_false (xs := xs) (fun v => h1 (by have := v.1; rw [h.1] at this; exact this)))
    have hd1 : decide ((n : Int) < 1) = true := by simp; omega
    clear h
    go_enter Try.func86, Try.ntmps86
    go_wp2
    go_ret
    exact ⟨ret_bool E.out.symm, Below.refl _ _⟩

end Go.Proofs.Ytcenffndclpjoaa

namespace Go.Proofs.Ytcenffndclpjoaa
open Go.RowKit

theorem ret2_eq {v : Value} {a b : Bool} (h : a = b) : Ending.returned (.tuple #[v, .bool a]) = .returned (.tuple #[v, .bool b]) := by rw [h]

theorem l1Both_any (A A' : Option Addr) (n m c c' : Nat) (xs ys : List Int) (w : World) (h : Rd w A n xs) (h' : Rd w A' m ys) (hn : n ≤ 17592186044416) (hm : m ≤ 17592186044416) :
    Calls Try.prog 72 #[.slice A n c, .slice A' m c'] w fun e w' => e = .returned (.bool (both xs ys)) ∧ Below w.heap.size w w' := by
  have H := Lib.hid h; have H' := Lib.hid h'
  have Hx := Lib.hid h.1; have Hy := Lib.hid h'.1; clear h h'
  by_cases hv : vld xs = true
  · by_cases hv' : vld ys = true
    · by_cases hl : n = m
      · have E : Hid (both xs ys = true) := by simp [Hid, both, hv, hv', Hx.out, Hy.out, hl]
        have hl' : ((n : Int) == m) = true := by simp [hl]
        clear hl
        go_enter Try.func72, Try.ntmps72
        go_wp2_with fail
        refine (specValid_b A n c xs w H.out hn).mono ?_
        rintro e w1 ⟨rfl, b1⟩
        have HB := Lib.hid b1; have H1 := Lib.hid (H'.out.below b1); clear b1
        go_wp2_with fail
        refine (specValid_b A' m c' ys w1 H1.out hm).mono ?_
        rintro e w2 ⟨rfl, b2⟩
        have HB2 := Lib.hid (HB.out.trans (b2.mono HB.out.size)); clear b2
        go_wp2_with fail
        go_ret
        exact ⟨ret_bool E.out.symm, HB2.out⟩
      · have E : Hid (both xs ys = false) := by simp [Hid, both, hv, hv', Hx.out, Hy.out, hl]
        have hl' : ((n : Int) == m) = false := by simp; omega
        clear hl
        go_enter Try.func72, Try.ntmps72
        go_wp2_with fail
        refine (specValid_b A n c xs w H.out hn).mono ?_
        rintro e w1 ⟨rfl, b1⟩
        have HB := Lib.hid b1; have H1 := Lib.hid (H'.out.below b1); clear b1
        go_wp2_with fail
        refine (specValid_b A' m c' ys w1 H1.out hm).mono ?_
        rintro e w2 ⟨rfl, b2⟩
        have HB2 := Lib.hid (HB.out.trans (b2.mono HB.out.size)); clear b2
        go_wp2_with fail
        go_ret
        exact ⟨ret_bool E.out.symm, HB2.out⟩
    · have hv' : vld ys = false := by simpa using hv'
      have E : Hid (both xs ys = false) := by simp [Hid, both, hv, hv']
      go_enter Try.func72, Try.ntmps72
      go_wp2_with fail
      refine (specValid_b A n c xs w H.out hn).mono ?_
      rintro e w1 ⟨rfl, b1⟩
      have HB := Lib.hid b1; have H1 := Lib.hid (H'.out.below b1); clear b1
      go_wp2_with fail
      refine (specValid_b A' m c' ys w1 H1.out hm).mono ?_
      rintro e w2 ⟨rfl, b2⟩
      have HB2 := Lib.hid (HB.out.trans (b2.mono HB.out.size)); clear b2
      go_wp2_with fail
      go_ret
      exact ⟨ret_bool E.out.symm, HB2.out⟩
  · have hv : vld xs = false := by simpa using hv
    have E : Hid (both xs ys = false) := by simp [Hid, both, hv]
    go_enter Try.func72, Try.ntmps72
    go_wp2_with fail
    refine (specValid_b A n c xs w H.out hn).mono ?_
    rintro e w1 ⟨rfl, b1⟩
    have HB := Lib.hid b1; clear b1
    go_wp2_with fail
    go_ret
    exact ⟨ret_bool E.out.symm, HB.out⟩

theorem permPair_any (A A' : Option Addr) (n m c c' : Nat) (xs ys : List Int) (w : World) (h : Rd w A n xs) (h' : Rd w A' m ys) (hn : n ≤ 17592186044416) (hm : m ≤ 17592186044416) :
    Calls Try.prog 65 #[.slice A n c, .slice A' m c'] w fun e w' => e = .returned (.bool (both xs ys)) ∧ Below w.heap.size w w' := by
  have H := Lib.hid h; have H' := Lib.hid h'
  have Hx := Lib.hid h.1; have Hy := Lib.hid h'.1; clear h h'
  by_cases hv : vld xs = true
  · by_cases hv' : vld ys = true
    · by_cases hl : n = m
      · have E : Hid (both xs ys = true) := by simp [Hid, both, hv, hv', Hx.out, Hy.out, hl]
        have hl' : ((n : Int) == m) = true := by simp [hl]
        clear hl
        go_enter Try.func65, Try.ntmps65
        go_wp2_with fail
        refine (implValid_any A n c xs w H.out hn).mono ?_
        rintro e w1 ⟨rfl, b1⟩
        have HB := Lib.hid b1; have H1 := Lib.hid (H'.out.below b1); clear b1
        go_wp2_with fail
        refine (implValid_any A' m c' ys w1 H1.out hm).mono ?_
        rintro e w2 ⟨rfl, b2⟩
        have HB2 := Lib.hid (HB.out.trans (b2.mono HB.out.size)); clear b2
        go_wp2_with fail
        go_ret
        exact ⟨ret_bool E.out.symm, HB2.out⟩
      · have E : Hid (both xs ys = false) := by simp [Hid, both, hv, hv', Hx.out, Hy.out, hl]
        have hl' : ((n : Int) == m) = false := by simp; omega
        clear hl
        go_enter Try.func65, Try.ntmps65
        go_wp2_with fail
        refine (implValid_any A n c xs w H.out hn).mono ?_
        rintro e w1 ⟨rfl, b1⟩
        have HB := Lib.hid b1; have H1 := Lib.hid (H'.out.below b1); clear b1
        go_wp2_with fail
        refine (implValid_any A' m c' ys w1 H1.out hm).mono ?_
        rintro e w2 ⟨rfl, b2⟩
        have HB2 := Lib.hid (HB.out.trans (b2.mono HB.out.size)); clear b2
        go_wp2_with fail
        go_ret
        exact ⟨ret_bool E.out.symm, HB2.out⟩
    · have hv' : vld ys = false := by simpa using hv'
      have E : Hid (both xs ys = false) := by simp [Hid, both, hv, hv']
      go_enter Try.func65, Try.ntmps65
      go_wp2_with fail
      refine (implValid_any A n c xs w H.out hn).mono ?_
      rintro e w1 ⟨rfl, b1⟩
      have HB := Lib.hid b1; have H1 := Lib.hid (H'.out.below b1); clear b1
      go_wp2_with fail
      refine (implValid_any A' m c' ys w1 H1.out hm).mono ?_
      rintro e w2 ⟨rfl, b2⟩
      have HB2 := Lib.hid (HB.out.trans (b2.mono HB.out.size)); clear b2
      go_wp2_with fail
      go_ret
      exact ⟨ret_bool E.out.symm, HB2.out⟩
  · have hv : vld xs = false := by simpa using hv
    have E : Hid (both xs ys = false) := by simp [Hid, both, hv]
    go_enter Try.func65, Try.ntmps65
    go_wp2_with fail
    refine (implValid_any A n c xs w H.out hn).mono ?_
    rintro e w1 ⟨rfl, b1⟩
    have HB := Lib.hid b1; clear b1
    go_wp2_with fail
    go_ret
    exact ⟨ret_bool E.out.symm, HB.out⟩

/-- The indexes that a leads to lie in b. -/
def Into (a : List Int) (m : Nat) : Prop := ∀ j, j < a.length → 0 ≤ gi a j ∧ gi a j < m
theorem Into.nat {a : List Int} {m j : Nat} (h : Into a m) (hj : j < a.length) : ∃ x : Nat, gi a j = (x : Int) ∧ x < m ∧ gn a j = x := by
  obtain ⟨x, hx⟩ := Int.eq_ofNat_of_zero_le (h j hj).1
  exact ⟨x, hx, by have := (h j hj).2; omega, gn_of hx⟩
theorem Vld.into {p : List Int} (h : Vld p) {m : Nat} (hm : p.length = m) : Into p m := fun j hj => by rw [← hm]; exact h.2.2.1 j hj

set_option maxHeartbeats 800000 in
theorem then_any (A A' : Option Addr) (n m c c' : Nat) (xs ys : List Int) (w : World) (h : Rd w A n xs) (h' : Rd w A' m ys) (hn : n ≤ 1048576) (_hm : m ≤ 1048576) (hi : Into xs m) :
    Calls Try.prog 60 #[.slice A n c, .slice A' m c'] w fun e w' => ∃ v, e = .returned v ∧ Own w' w.heap.size v (mulL xs ys) ∧ Below w.heap.size w w' := by
  obtain ⟨i0, hinf, hz0, hz1, hz2⟩ := info_parts info_int
  have H := Lib.hid h; have H' := Lib.hid h'; have HI := Lib.hid hi
  have Hx := Lib.hid h.1; have Hy := Lib.hid h'.1; clear h h' hi
  go_enter Try.func60, Try.ntmps60
  go_wp2_with (at_make; refine wpList_make_full _ rfl _ _ 64 rfl w.heap.size 3 i0 (.int .i64 0) 1 Try.underlying64 hinf hz0 hz1 .i64 .i64 _ _ n rfl rfl rfl rfl (by rw [hz2]; omega) (by unfold maxLen; omega) (Nat.le_refl _) ?_; intro w1 hown1 hgrow1)
  have hb1 := Lib.hid (below_of_grown hgrow1 (Nat.le_refl _) (fun k hk => by cases hk))
  have ho1 := Lib.hid (Own.made hown1)
  clear hown1 hgrow1 hz0 hz1 hz2 hinf
  go_loopw [13] (fun i wr => ∃ (k : Nat) (zs : List Int), k ≤ n ∧ i = .int .i64 k ∧ Hid (Own wr w.heap.size (.slice (some ⟨w.heap.size, 0, none⟩) n n) zs) ∧ Hid (zs.length = n) ∧ Hid (Below w.heap.size w wr) ∧ Hid (∀ j, j < k → gi zs j = gi ys (gn xs j))) (fun i _ => n - (intOf i).toNat)
  case atStart => exact ⟨0, _, Nat.zero_le _, rfl, ho1, by simp [Hid], hb1, fun j hj => absurd hj (by omega)⟩
  case round =>
    obtain ⟨k, zs, hk, rfl, ho, hzl, hb, hall⟩ := hrel
    by_cases hlt : k < n
    · obtain ⟨ad, rfl, hc⟩ := (H.out.below hb.out).at_ hlt
      obtain ⟨x, hx, hxm, hgn⟩ := HI.out.nat (j := k) (by rw [Hx.out]; exact hlt)
      rw [hx] at hc
      obtain ⟨ad', rfl, hc'⟩ := (H'.out.below hb.out).at_ hxm
      have HX := Lib.hid hx; have HG := Lib.hid hgn; clear hx hgn
      obtain ⟨g, hg, _, hc3, hf3⟩ := ho.out.cellAt hzl.out hlt
      simp only [Option.some.injEq, Addr.mk.injEq, and_true] at hg
      subst hg
      have HS := Lib.hid (ho.out.stored hzl.out k (gi ys x))
      go_wp2
      go_roundw
      case rel =>
        refine ⟨k + 1, _, by omega, by go_num, HS.out.1, by simpa [Hid] using hzl.out, hb.out.setCell (Nat.le_refl _) _, fun j hj => ?_⟩
        rw [gi_set _ _ _ _ (by rw [hzl.out]; exact hlt)]
        by_cases e : j = k
        · rw [if_pos e, e, HG.out]
        · rw [if_neg e]; exact hall.out j (by omega)
      case measure => simp [intOf]; omega
    · go_wp2
      go_ret
      refine ⟨_, rfl, ?_, hb.out⟩
      have e : zs = mulL xs ys := eq_of_gi (by rw [hzl.out, mulL_len, Hx.out]) (fun j hj => by rw [hzl.out] at hj; rw [hall.out j (by omega), gi_mulL (by rw [Hx.out]; exact hj)])
      rw [← e]; exact ho.out

end Go.Proofs.Ytcenffndclpjoaa
