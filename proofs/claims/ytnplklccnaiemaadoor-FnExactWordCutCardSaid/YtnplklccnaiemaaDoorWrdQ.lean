/-
  Words cut and glued anew: the program's.
-/
import Derived.Test.YtnplklccnaiemaaDoorWrdR
import Derived.Test.YtnplklccnaiemaaDoorWrdP
namespace Go.Proofs.YtnplklccnaiemaaDoor
open Go.RowKit

theorem large_all : ∀ n, n < 256 → 0 ≤ ltr (UInt8.ofNat n) → bits .andNot .u8 ((UInt8.ofNat n).toNat : Int) 32 = ((nmb (ltr (UInt8.ofNat n)).toNat false).toNat : Int) := by decide +kernel
theorem large_eq (c : UInt8) (h : 0 ≤ ltr c) : bits .andNot .u8 (c.toNat : Int) 32 = ((nmb (ltr c).toNat false).toNat : Int) := by
  have := large_all c.toNat (by have := c.toNat_lt; omega)
  rw [show UInt8.ofNat c.toNat = c from by simp] at this
  exact this h
theorem low_nmb_all : ∀ n, n < 256 → 0 ≤ ltr (UInt8.ofNat n) → low (UInt8.ofNat n) = nmb (ltr (UInt8.ofNat n)).toNat true := by decide +kernel
theorem low_nmb (c : UInt8) (h : 0 ≤ ltr c) : low c = nmb (ltr c).toNat true := by
  have := low_nmb_all c.toNat (by have := c.toNat_lt; omega)
  rw [show UInt8.ofNat c.toNat = c from by simp] at this
  exact this h
theorem large_any (c : UInt8) (w : World) (h : 0 ≤ ltr c) :
    Calls Tryd.prog 42 #[.int .u8 (c.toNat : Int)] w fun e w' => e = .returned (.int .u8 ((nmb (ltr c).toNat false).toNat : Int)) ∧ w = w' := by
  have E := Lib.hid (large_eq c h)
  clear h
  go_enter Tryd.func42, Tryd.ntmps42
  go_wp2
  go_ret
  exact ⟨ret_intE E.out, rfl⟩

theorem PRope.ptr {w : World} {B : Nat} {v : Value} {l : List UInt8} (h : PRope w B v l) : ∃ p, v = .pointer p ∧ PRope w B (.pointer p) l := by
  rcases h with h | ⟨h, b, e, hr⟩
  · exact ⟨none, h.2, .inl ⟨h.1, rfl⟩⟩
  · exact ⟨_, e, .inr ⟨h, b, rfl, hr⟩⟩

/-- Three ropes in a row, four ropes in a row. -/
theorem joined_three (v1 v2 v3 : Value) (xs ys zs : List UInt8) (w : World) (hl : xs.length + ys.length + zs.length ≤ 1048576) (h1 : PRope w w.heap.size v1 xs) (h2 : PRope w w.heap.size v2 ys) (h3 : PRope w w.heap.size v3 zs) :
    Calls Tryd.prog 33 #[.slice (some ⟨w.heap.size, 0, none⟩) 3 3] (w.alloc (.cells #[v1, v2, v3] 51)) fun e w' => ∃ v, e = .returned v ∧ PRope w' w'.heap.size v (xs ++ (ys ++ zs)) ∧ Below w.heap.size w w' := by
  have hb : Below w.heap.size w (w.alloc (.cells #[v1, v2, v3] 51)) := (Below.refl _ _).alloc (Nat.le_refl _) _
  refine (joined_any w.heap.size 3 3 [xs, ys, zs] _ rfl (by omega) (by omega) (by simp; omega) (fun i hi => ?_)).mono ?_
  · match i, hi with
    | 0, _ => exact ⟨v1, by rw [cell_of_row _ _ 0 _ _ (0, 0) (heap_alloc_new w _)]; rfl, (h1.below hb).mono hb.size⟩
    | 1, _ => exact ⟨v2, by rw [cell_of_row _ _ 1 _ _ (0, 0) (heap_alloc_new w _)]; rfl, (h2.below hb).mono hb.size⟩
    | 2, _ => exact ⟨v3, by rw [cell_of_row _ _ 2 _ _ (0, 0) (heap_alloc_new w _)]; rfl, (h3.below hb).mono hb.size⟩
    | _ + 3, h => exact absurd h (by omega)
  · rintro e w' ⟨v, he, hp, hb'⟩
    refine ⟨v, he, by simpa using hp, hb.trans (hb'.mono hb.size)⟩
theorem joined_four (v1 v2 v3 v4 : Value) (xs ys zs us : List UInt8) (w : World) (hl : xs.length + ys.length + zs.length + us.length ≤ 1048576) (h1 : PRope w w.heap.size v1 xs) (h2 : PRope w w.heap.size v2 ys) (h3 : PRope w w.heap.size v3 zs) (h4 : PRope w w.heap.size v4 us) :
    Calls Tryd.prog 33 #[.slice (some ⟨w.heap.size, 0, none⟩) 4 4] (w.alloc (.cells #[v1, v2, v3, v4] 51)) fun e w' => ∃ v, e = .returned v ∧ PRope w' w'.heap.size v (xs ++ (ys ++ (zs ++ us))) ∧ Below w.heap.size w w' := by
  have hb : Below w.heap.size w (w.alloc (.cells #[v1, v2, v3, v4] 51)) := (Below.refl _ _).alloc (Nat.le_refl _) _
  refine (joined_any w.heap.size 4 4 [xs, ys, zs, us] _ rfl (by omega) (by omega) (by simp; omega) (fun i hi => ?_)).mono ?_
  · match i, hi with
    | 0, _ => exact ⟨v1, by rw [cell_of_row _ _ 0 _ _ (0, 0) (heap_alloc_new w _)]; rfl, (h1.below hb).mono hb.size⟩
    | 1, _ => exact ⟨v2, by rw [cell_of_row _ _ 1 _ _ (0, 0) (heap_alloc_new w _)]; rfl, (h2.below hb).mono hb.size⟩
    | 2, _ => exact ⟨v3, by rw [cell_of_row _ _ 2 _ _ (0, 0) (heap_alloc_new w _)]; rfl, (h3.below hb).mono hb.size⟩
    | 3, _ => exact ⟨v4, by rw [cell_of_row _ _ 3 _ _ (0, 0) (heap_alloc_new w _)]; rfl, (h4.below hb).mono hb.size⟩
    | _ + 4, h => exact absurd h (by omega)
  · rintro e w' ⟨v, he, hp, hb'⟩
    refine ⟨v, he, by simpa using hp, hb.trans (hb'.mono hb.size)⟩

/-- The parts of a word that is cut. -/
structure Parts (l : List UInt8) (i k m d : Nat) : Prop where
  ki : k < i
  im : i ≤ m
  ml : m < l.length
  l10 : l.length ≤ 10
  d : m = i + d
theorem ne_nil_of {l : List UInt8} (h : 0 < l.length) : l ≠ [] := List.length_pos_iff.1 h
theorem Parts.t1 {l : List UInt8} {i k m d : Nat} (h : Parts l i k m d) : l.take i ≠ [] := ne_nil_of (by have := h.ki; have := h.im; have := h.ml; rw [List.length_take]; omega)
theorem Parts.t2 {l : List UInt8} {i k m d : Nat} (h : Parts l i k m d) : l.drop i ≠ [] := ne_nil_of (by have := h.im; have := h.ml; rw [List.length_drop]; omega)
theorem Parts.t3 {l : List UInt8} {i k m d : Nat} (h : Parts l i k m d) : (l.take i).drop k ≠ [] := ne_nil_of (by have := h.ki; have := h.im; have := h.ml; rw [List.length_drop, List.length_take]; omega)
theorem Parts.t4 {l : List UInt8} {i k m d : Nat} (h : Parts l i k m d) : (l.drop i).drop d ≠ [] := ne_nil_of (by have := h.d; have := h.ml; rw [List.length_drop, List.length_drop]; omega)
theorem Parts.len {l : List UInt8} {i k m d : Nat} (h : Parts l i k m d) : l.length ≤ 1048576 ∧ (l.take i).length ≤ 1048576 ∧ (l.drop i).length ≤ 1048576 ∧ ((l.take i).drop k).length ≤ 1048576 ∧ ((l.drop i).drop d).length ≤ 1048576 ∧ i ≤ l.length ∧ k ≤ (l.take i).length ∧ 1 ≤ ((l.take i).drop k).length ∧ d ≤ (l.drop i).length ∧ 1 ≤ ((l.drop i).drop d).length := by
  have := h.ki; have := h.im; have := h.ml; have := h.l10; have := h.d
  simp only [List.length_drop, List.length_take]
  omega
/-- What is glued to the first part. -/
def tailR (l : List UInt8) (i k d : Nat) : List UInt8 := ((l.drop i).drop d).drop 1 ++ ([nmb (ltr (gb l k)).toNat false] ++ (l.drop i).take d)
theorem Parts.tailLen {l : List UInt8} {i k m d : Nat} (h : Parts l i k m d) : (((l.drop i).drop d).drop 1).length + ([nmb (ltr (gb l k)).toNat false] : List UInt8).length + ((l.drop i).take d).length ≤ 1048576 := by
  have := h.ki; have := h.im; have := h.ml; have := h.l10; have := h.d
  simp only [List.length_drop, List.length_take, List.length_cons, List.length_nil]
  omega
theorem Parts.tail_len {l : List UInt8} {i k m d : Nat} (h : Parts l i k m d) : (tailR l i k d).length ≤ 10 := by
  have := h.ki; have := h.im; have := h.ml; have := h.l10; have := h.d
  rw [tailR]
  simp only [List.length_append, List.length_drop, List.length_take, List.length_cons, List.length_nil]
  omega
theorem tailR_ne (l : List UInt8) (i k d : Nat) : tailR l i k d ≠ [] := by
  apply ne_nil_of
  rw [tailR]
  simp only [List.length_append, List.length_cons, List.length_nil]
  omega
def tailS (l : List UInt8) (i k d : Nat) (sm : Bool) : List UInt8 := if sm then backW (tailR l i k d) else tailR l i k d
theorem tailS_ne (l : List UInt8) (i k d : Nat) (sm : Bool) : tailS l i k d sm ≠ [] := by
  have := tailR_ne l i k d
  unfold tailS
  split
  · intro e
    have := congrArg List.length e
    rw [backW_len] at this
    simp at this
    contradiction
  · exact this
theorem Parts.tailS_len {l : List UInt8} {i k m d : Nat} (h : Parts l i k m d) (sm : Bool) : (tailS l i k d sm).length ≤ 10 := by
  have := h.tail_len
  unfold tailS
  split
  · rw [backW_len]; exact this
  · exact this
theorem Parts.whole {l : List UInt8} {i k m d : Nat} (h : Parts l i k m d) (sm : Bool) : (((l.take i).drop k).drop 1).length + ([nmb (ltr (gb l k)).toNat true] : List UInt8).length + ((l.take i).take k).length + (tailS l i k d sm).length ≤ 1048576 := by
  have := h.ki; have := h.im; have := h.ml; have := h.l10; have := h.tailS_len sm
  simp only [List.length_drop, List.length_take, List.length_cons, List.length_nil]
  omega
theorem Parts.all {l : List UInt8} {i k m d : Nat} (h : Parts l i k m d) {sm : Bool} (hs : (sml (gb l k) == sml (gb l m)) = sm) (hp : par l k = m) :
    ((l.take i).drop k).drop 1 ++ ([nmb (ltr (gb l k)).toNat true] ++ ((l.take i).take k ++ tailS l i k d sm)) = cutW l i k := by
  have hki := h.ki; have hd := h.d
  have e1 : (l.take i).take k = l.take k := by rw [List.take_take, Nat.min_eq_left (by omega)]
  have e2 : ((l.drop i).drop d).drop 1 = l.drop (m + 1) := by rw [List.drop_drop, List.drop_drop]; congr 1; omega
  have e3 : (l.take m).drop i = (l.drop i).take d := by rw [List.drop_take]; congr 1; omega
  rw [cutW, hp, restW, hs, e1, List.drop_drop, tailS, tailR, e2, e3]
  simp only [List.append_assoc]

end Go.Proofs.YtnplklccnaiemaaDoor
