/-
  PermValid, the model's and the program's: both tell whether a list has 1 to 12 numbers below its length, no two equal.
-/
import Derived.Test.YteajaikgeephmaaKit
namespace Go.Proofs.Yteajaikgeephmaa
open Go.RowKit


theorem l6In_any (x lo hi : Int) (w : World) :
    Calls Try.prog 116 #[.int .i64 x, .int .i64 lo, .int .i64 hi] w fun e w' => e = .returned (.bool (inB x lo hi)) ∧ w = w' := by
  by_cases h : lo ≤ x
  · by_cases h' : x ≤ hi
    · have E := Lib.hid (inB_true h h')
      go_enter Try.func116, Try.ntmps116
      go_wp2
      go_ret
      exact ⟨ret_bool (by rw [E.out]), rfl⟩
    · have E := Lib.hid (inB_false (x := x) (lo := lo) (hi := hi) (fun e => h' e.2))
      go_enter Try.func116, Try.ntmps116
      go_wp2
      go_ret
      exact ⟨ret_bool (by rw [E.out]), rfl⟩
  · have E := Lib.hid (inB_false (x := x) (lo := lo) (hi := hi) (fun e => h e.1))
    go_enter Try.func116, Try.ntmps116
    go_wp2
    go_ret
    exact ⟨ret_bool (by rw [E.out]), rfl⟩

set_option maxHeartbeats 800000 in
theorem specValid_any (A : Option Addr) (n c : Nat) (xs : List Int) (w : World) (h : Rd w A n xs) (hn : n ≤ 17592186044416) :
    Calls Try.prog 103 #[.slice A n c] w fun e w' => e = .returned (.bool (vld xs)) ∧ ∃ q, w' = w.drewN q := by
  have hxl := h.1
  have H := Lib.hid h; clear h
  have Hx := Lib.hid hxl; clear hxl
  go_enter Try.func103, Try.ntmps103
  go_wp2_with fail
  go_loopw [3, 4] (fun i _ wr => ∃ k q : Nat, k ≤ n ∧ i = .int .i64 k ∧ wr = w.drewN q ∧ Hid ((∀ j, j < k → 0 ≤ gi xs j ∧ gi xs j < n) ∧ ∀ j, j < k → ∀ i, i < j → gi xs i ≠ gi xs j)) (fun i _ _ => n - (intOf i).toNat)
  case atStart => exact ⟨0, 0, Nat.zero_le _, rfl, rfl, ⟨fun j hj => absurd hj (by omega), fun j hj => absurd hj (by omega)⟩⟩
  case round =>
    obtain ⟨k, q, hk, rfl, rfl, hall⟩ := hrel
    by_cases hlt : k < n
    · obtain ⟨ad, rfl, hc⟩ := H.out.at_ hlt
      by_cases hin : 0 ≤ gi xs k ∧ gi xs k ≤ (n : Int) - 1
      · have hb := inB_true hin.1 hin.2
        have HI := Lib.hid hin; clear hin
        go_wp2_with (go_at_call 116; refine (l6In_any _ _ _ _).mono ?_; rintro e w' ⟨rfl, rfl⟩)
        go_loopw [4] (fun i wr => ∃ m q' : Nat, m ≤ k ∧ i = .int .i64 m ∧ wr = w.drewN q' ∧ Hid (∀ i, i < m → gi xs i ≠ gi xs k)) (fun i _ => k - (intOf i).toNat)
        case atStart => exact ⟨0, q, Nat.zero_le _, rfl, rfl, fun j hj => absurd hj (by omega)⟩
        case round =>
          obtain ⟨m, q', hm, rfl, rfl, hne⟩ := hrel
          by_cases hlt' : m < k
          · obtain ⟨ad', hA, hc'⟩ := H.out.at_ (Nat.lt_trans hlt' hlt)
            simp only [Option.some.injEq] at hA
            subst hA
            by_cases he : gi xs m = gi xs k
            · have he' : (gi xs m == gi xs k) = true := by simp [he]
              have HE := Lib.hid he; clear he
              go_wp2
              go_quiet (fail)
              go_wp2
              go_ret
              exact ⟨ret_bool (vld_false (fun v => v.2.2.2 k (by rw [Hx.out]; exact hlt) m hlt' HE.out)).symm, q' + _, World.drewN_drewN _ _ _⟩
            · have he' : (gi xs m == gi xs k) = false := by simp [he]
              have HE := Lib.hid he; clear he
              go_wp2
              go_quiet (fail)
              go_wp2
              go_roundw
              case rel => exact ⟨m + 1, q' + _, by omega, by go_num, rfl, fun j hj => by
                by_cases e : j = m
                · subst e; exact HE.out
                · exact hne.out j (by omega)⟩
              case measure => simp [intOf]; omega
          · go_wp2
            go_roundw
            case rel => exact ⟨k + 1, q', by omega, by go_num, rfl, ⟨fun j hj => by
                by_cases e : j = k
                · subst e; have := HI.out; omega
                · exact hall.out.1 j (by omega), fun j hj i hi => by
                by_cases e : j = k
                · subst e; exact hne.out i (by omega)
                · exact hall.out.2 j (by omega) i hi⟩⟩
            case measure => simp [intOf]; omega
      · have hb := inB_false hin
        have HI := Lib.hid hin; clear hin
        go_wp2_with (go_at_call 116; refine (l6In_any _ _ _ _).mono ?_; rintro e w' ⟨rfl, rfl⟩)
        go_ret
        exact ⟨ret_bool (vld_false (fun v => HI.out (by have := v.2.2.1 k (by rw [Hx.out]; exact hlt); rw [Hx.out] at this; omega))).symm, _, rfl⟩
    · go_wp2_with (go_at_call 116; refine (l6In_any _ _ _ _).mono ?_; rintro e w' ⟨rfl, rfl⟩)
      go_ret
      refine ⟨ret_bool ?_, _, rfl⟩
      by_cases hi : (1 : Int) ≤ n ∧ (n : Int) ≤ 12
      · rw [inB_true hi.1 hi.2, vld_true]
        exact ⟨by rw [Hx.out]; omega, by rw [Hx.out]; omega, fun j hj => by rw [Hx.out] at hj ⊢; exact hall.out.1 j (by omega), fun j hj => by rw [Hx.out] at hj; exact hall.out.2 j (by omega)⟩
      · rw [inB_false hi, vld_false]
        intro v; apply hi; have := v.1; have := v.2.1; rw [Hx.out] at *; omega

theorem specValid_b (A : Option Addr) (n c : Nat) (xs : List Int) (w : World) (h : Rd w A n xs) (hn : n ≤ 17592186044416) :
    Calls Try.prog 103 #[.slice A n c] w fun e w' => e = .returned (.bool (vld xs)) ∧ Below w.heap.size w w' :=
  (specValid_any A n c xs w h hn).mono fun _ _ ⟨he, k, hw⟩ => ⟨he, hw ▸ below_drewN (Below.refl _ _) k⟩

def seenB (xs : List Int) (k j : Nat) : Bool := (List.range k).any fun i => gi xs i == (j : Int)
theorem seenB_iff {xs : List Int} {k j : Nat} : seenB xs k j = true ↔ ∃ i, i < k ∧ gi xs i = (j : Int) := by simp [seenB]
theorem seenB_true {xs : List Int} {k j : Nat} (h : ∃ i, i < k ∧ gi xs i = (j : Int)) : seenB xs k j = true := seenB_iff.2 h
theorem seenB_false {xs : List Int} {k j : Nat} (h : ¬ ∃ i, i < k ∧ gi xs i = (j : Int)) : seenB xs k j = false := by
  rw [Bool.eq_false_iff]; exact fun e => h (seenB_iff.1 e)
/-- Twelve bools of a block of one's own, as the first k of xs have marked them. -/
def Seen (w : World) (b : Nat) (xs : List Int) (k : Nat) : Prop :=
  ∃ cs : Array Value, w.heap[b]? = some (.cells cs 96 (0, 0)) ∧ cs.size = 12 ∧ ∀ j : Nat, j < 12 → cs[j]? = some (.bool (seenB xs k j))
theorem Seen.frozen {w : World} {b k : Nat} {xs : List Int} (h : Seen w b xs k) (j : Nat) : w.frozen? ⟨b, j, none⟩ = false := by
  obtain ⟨cs, h, _⟩ := h
  exact frozen_of_row w b j cs _ h
theorem Seen.cell {w : World} {b k : Nat} {xs : List Int} (h : Seen w b xs k) {j : Nat} (hj : j < 12) : w.cell? ⟨b, j, none⟩ = some (.bool (seenB xs k j)) := by
  obtain ⟨cs, h, _, hc⟩ := h
  rw [cell_of_row w b j cs _ (0, 0) h]; exact hc j hj
theorem Seen.new (w : World) (xs : List Int) : Seen (w.alloc (.cells #[.bool false, .bool false, .bool false, .bool false, .bool false, .bool false, .bool false, .bool false, .bool false, .bool false, .bool false, .bool false] 96)) w.heap.size xs 0 := by
  refine ⟨_, heap_alloc_new w _, rfl, fun j hj => ?_⟩
  have : seenB xs 0 j = false := by simp [seenB]
  rw [this]
  match j, hj with
  | 0, _ => rfl
  | 1, _ => rfl
  | 2, _ => rfl
  | 3, _ => rfl
  | 4, _ => rfl
  | 5, _ => rfl
  | 6, _ => rfl
  | 7, _ => rfl
  | 8, _ => rfl
  | 9, _ => rfl
  | 10, _ => rfl
  | 11, _ => rfl
  | _ + 12, h => exact absurd h (by omega)
theorem Seen.set {w : World} {b k x : Nat} {xs : List Int} (h : Seen w b xs k) (hx : gi xs k = (x : Int)) : Seen (w.setCell ⟨b, x, none⟩ (.bool true)) b xs (k + 1) := by
  obtain ⟨cs, h, hs, hc⟩ := h
  refine ⟨cs.setIfInBounds x (.bool true), ?_, by simpa using hs, fun j hj => ?_⟩
  · simp [World.setCell, Array.getElem?_modify, h]
  · rw [Array.getElem?_setIfInBounds]
    by_cases e : x = j
    · subst e
      rw [if_pos rfl, if_pos (by rw [hs]; exact hj)]
      congr 2; symm
      exact seenB_true ⟨k, by omega, hx⟩
    · rw [if_neg e, hc j hj]
      congr 2
      rw [Bool.eq_iff_iff, seenB_iff, seenB_iff]
      constructor
      · rintro ⟨i, hi, he⟩; exact ⟨i, by omega, he⟩
      · rintro ⟨i, hi, he⟩
        refine ⟨i, ?_, he⟩
        rcases Nat.lt_or_ge i k with h | h
        · exact h
        · obtain rfl : i = k := by omega
          rw [hx] at he; omega

set_option maxHeartbeats 800000 in
theorem implValid_in (A : Option Addr) (n c : Nat) (xs : List Int) (w : World) (h : Rd w A n xs) (h1 : 1 ≤ n) (h12 : n ≤ 12) :
    Calls Try.prog 67 #[.slice A n c] w fun e w' => e = .returned (.bool (vld xs)) ∧ Below w.heap.size w w' := by
  have hxl := h.1
  have H := Lib.hid h; clear h
  have Hx := Lib.hid hxl; clear hxl
  have hd1 : decide ((n : Int) < 1) = false := by simp; omega
  have hd2 : decide ((12 : Int) < n) = false := by simp; omega
  go_enter Try.func67, Try.ntmps67
  go_wp2
  go_loopw [16] (fun i wr => ∃ k : Nat, k ≤ n ∧ i = .int .i64 k ∧ Hid (Seen wr w.heap.size xs k ∧ Below w.heap.size w wr) ∧ Hid ((∀ j, j < k → 0 ≤ gi xs j ∧ gi xs j < n) ∧ ∀ j, j < k → ∀ i, i < j → gi xs i ≠ gi xs j)) (fun i _ => n - (intOf i).toNat)
  case atStart => exact ⟨0, Nat.zero_le _, rfl, ⟨Seen.new _ _, (Below.refl _ _).alloc (Nat.le_refl _) _⟩, ⟨fun j hj => absurd hj (by omega), fun j hj => absurd hj (by omega)⟩⟩
  case round =>
    obtain ⟨k, hk, rfl, hs, hall⟩ := hrel
    by_cases hlt : k < n
    · obtain ⟨ad, rfl, hc⟩ := (H.out.below hs.out.2).at_ hlt
      by_cases hin : 0 ≤ gi xs k ∧ gi xs k < (n : Int)
      · obtain ⟨x, hx⟩ := Int.eq_ofNat_of_zero_le hin.1
        have hxn : x < n := by have := hin.2; rw [hx] at this; omega
        have hx12 : x < 12 := by omega
        rw [hx] at hc
        have hcs := hs.out.1.cell hx12
        have hfs := hs.out.1.frozen x
        have hg1 : decide ((x : Int) < 0) = false := by simp
        have hg2 : decide ((n : Int) ≤ x) = false := by simp; omega
        by_cases hsn : ∃ i, i < k ∧ gi xs i = (x : Int)
        · rw [seenB_true hsn] at hcs
          have HX := Lib.hid hx; clear hx
          have HS := Lib.hid hsn; clear hsn
          have HI := Lib.hid hin; clear hin
          go_wp2
          go_ret
          refine ⟨ret_bool (vld_false (fun v => ?_)).symm, hs.out.2⟩
          obtain ⟨i, hi, he⟩ := HS.out
          exact v.2.2.2 k (by rw [Hx.out]; exact hlt) i hi (he.trans HX.out.symm)
        · rw [seenB_false hsn] at hcs
          have HX := Lib.hid hx; clear hx
          have HS := Lib.hid hsn; clear hsn
          have HI := Lib.hid hin; clear hin
          go_wp2
          go_roundw
          case rel => exact ⟨k + 1, by omega, by go_num, ⟨hs.out.1.set HX.out, hs.out.2.setCell (Nat.le_refl _) _⟩, ⟨fun j hj => by
                by_cases e : j = k
                · subst e; exact HI.out
                · exact hall.out.1 j (by omega), fun j hj i hi he => by
                by_cases e : j = k
                · subst e; exact HS.out ⟨i, hi, he.trans HX.out⟩
                · exact hall.out.2 j (by omega) i hi he⟩⟩
          case measure => simp [intOf]; omega
      · by_cases h0 : 0 ≤ gi xs k
        · have hg1 : decide (gi xs k < 0) = false := by simp; omega
          have hg2 : decide ((n : Int) ≤ gi xs k) = true := by simp; omega
          have HI := Lib.hid hin; clear hin
          go_wp2
          go_ret
          exact ⟨ret_bool (vld_false (fun v => HI.out (by have := v.2.2.1 k (by rw [Hx.out]; exact hlt); rw [Hx.out] at this; omega))).symm, hs.out.2⟩
        · have hg1 : decide (gi xs k < 0) = true := by simp; omega
          have HI := Lib.hid hin; clear hin
          go_wp2
          go_ret
          exact ⟨ret_bool (vld_false (fun v => HI.out (by have := v.2.2.1 k (by rw [Hx.out]; exact hlt); rw [Hx.out] at this; omega))).symm, hs.out.2⟩
    · go_wp2
      go_ret
      refine ⟨ret_bool (vld_true ?_).symm, hs.out.2⟩
      exact ⟨by rw [Hx.out]; omega, by rw [Hx.out]; omega, fun j hj => by rw [Hx.out] at hj ⊢; exact hall.out.1 j (by omega), fun j hj => by rw [Hx.out] at hj; exact hall.out.2 j (by omega)⟩

theorem implValid_any (A : Option Addr) (n c : Nat) (xs : List Int) (w : World) (h : Rd w A n xs) (hn : n ≤ 17592186044416) :
    Calls Try.prog 67 #[.slice A n c] w fun e w' => e = .returned (.bool (vld xs)) ∧ Below w.heap.size w w' := by
  by_cases h1 : 1 ≤ n
  · by_cases h12 : n ≤ 12
    · exact implValid_in A n c xs w h h1 h12
    · have E := Lib.hid (vld_false (xs := xs) (fun v => h12 (by have := v.2.1; rw [h.1] at this; exact this)))
      have hd1 : decide ((n : Int) < 1) = false := by simp; omega
      have hd2 : decide ((12 : Int) < n) = true := by simp; omega
      clear h
      go_enter Try.func67, Try.ntmps67
      go_wp2
      go_ret
      exact ⟨ret_bool E.out.symm, Below.refl _ _⟩
  · have E := Lib.hid (vld_false (xs := xs) (fun v => h1 (by have := v.1; rw [h.1] at this; exact this)))
    have hd1 : decide ((n : Int) < 1) = true := by simp; omega
    clear h
    go_enter Try.func67, Try.ntmps67
    go_wp2
    go_ret
    exact ⟨ret_bool E.out.symm, Below.refl _ _⟩

end Go.Proofs.Yteajaikgeephmaa
