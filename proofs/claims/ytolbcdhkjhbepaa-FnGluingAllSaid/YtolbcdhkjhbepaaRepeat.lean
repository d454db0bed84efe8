/-
  slices.Repeat of one number, at []int and at perm: a new slice of that number, n times.
  slices.Repeat of one number at perm.
-/
import Derived.Test.YtolbcdhkjhbepaaConj
import Derived.Test.YtolbcdhkjhbepaaShelf
import Derived.Laws.CopyOwn
import Derived.Deep.RegionLaw
import Derived.RegionTactic
import Derived.BigRegion
import Derived.IntWalk
namespace Go.Proofs.Ytolbcdhkjhbepaa
open Go.RowKit

theorem Own.heap {w : World} {lo n c g : Nat} {xs : List Int} (h : Own w lo (.slice (some ⟨g, 0, none⟩) n c) xs) (hn : xs.length = n) :
    ∃ cur : Array Value, w.heap[g]? = some (.cells cur 3 (0, 0)) ∧ cur.size = c ∧ n ≤ c ∧ cur.toList.take n = ints xs ∧ lo ≤ g := by
  subst hn
  rcases h.2 with ⟨hv, _⟩ | ⟨g', cap, cur, hv, hg, hh, hn, hm, hs, ht⟩
  · simp at hv
  · simp only [Value.slice.injEq, Option.some.injEq, Addr.mk.injEq, and_true, true_and] at hv
    obtain ⟨rfl, rfl⟩ := hv
    exact ⟨cur, hh, by rw [hs]; omega, hn, by simpa using ht, hg⟩
theorem Own.full {w : World} {lo n g : Nat} {xs : List Int} (h : Own w lo (.slice (some ⟨g, 0, none⟩) n n) xs) (hn : xs.length = n) :
    w.heap[g]? = some (.cells (ints xs).toArray 3 (0, 0)) := by
  obtain ⟨cur, hh, hs, _, ht, _⟩ := h.heap hn
  rw [List.take_of_length_le (by simpa using Nat.le_of_eq hs)] at ht
  rw [← ht]; simpa using hh
theorem Own.of_heap {w : World} {lo n g : Nat} {xs : List Int} (h : w.heap[g]? = some (.cells (ints xs).toArray 3 (0, 0))) (hn : xs.length = n) (hlo : lo ≤ g) (hm : n ≤ maxLen) : Own w lo (.slice (some ⟨g, 0, none⟩) n n) xs := by
  subst hn
  refine ⟨by simp [ints_len], .inr ⟨g, xs.length, (ints xs).toArray, rfl, hlo, h, Nat.le_refl _, hm, by simp [ints_len], by simp [ints_len, List.take_of_length_le]⟩⟩

theorem gi_splice {zs cs : List Int} {k j : Nat} (hk : k + cs.length ≤ zs.length) : gi (splice zs k cs) j = if j < k then gi zs j else if j < k + cs.length then gi cs (j - k) else gi zs j := by
  unfold splice gi
  simp only [List.getD]
  by_cases h1 : j < k
  · rw [if_pos h1, List.getElem?_append_left (by simp; omega), List.getElem?_take, if_pos h1]
  · rw [if_neg h1, List.getElem?_append_right (by simp; omega)]
    have e : (List.take k zs).length = k := by simp; omega
    rw [e]
    by_cases h2 : j < k + cs.length
    · rw [if_pos h2, List.getElem?_append_left (by omega)]
    · rw [if_neg h2, List.getElem?_append_right (by omega), List.getElem?_drop]
      congr 2
      omega
theorem splice_ints (zs cs : List Int) (k : Nat) : splice (ints zs) k (ints cs) = ints (splice zs k cs) := by simp [splice, ints, List.map_append, List.map_take, List.map_drop]
theorem gi_replicate {n j : Nat} {v : Int} (h : j < n) : gi (List.replicate n v) j = v := by rw [gi_eq (by simpa using h)]; simp

theorem info_int_size : (Try.prog.info? 3).map (·.size) = some 1 := by kernel_rfl

theorem one_cell {w : World} {ad : Addr} {u : Value} (h : w.cell? (ad.add 0) = some u) : ∀ j u', ([u] : List Value)[j]? = some u' → w.cell? (ad.add j) = some u' := fun j u' hj => by
  cases j with
  | zero => simp at hj; rw [← hj]; exact h
  | succ j => simp at hj

end Go.Proofs.Ytolbcdhkjhbepaa

namespace Go.Proofs.Ytolbcdhkjhbepaa
open Go.RowKit

end Go.Proofs.Ytolbcdhkjhbepaa
