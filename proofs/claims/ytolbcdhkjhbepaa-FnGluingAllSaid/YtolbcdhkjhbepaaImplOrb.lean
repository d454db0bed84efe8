/-
  The program's orbits: from each point on in turn, what is reached is marked with it.
-/
import Derived.Test.YtolbcdhkjhbepaaRepeat
import Derived.Test.YtolbcdhkjhbepaaOrb
import Derived.StillTailTactics
namespace Go.Proofs.Ytolbcdhkjhbepaa
open Go.RowKit

theorem ints_inj {xs ys : List Int} (h : ints xs = ints ys) : xs = ys := by
  have hl : xs.length = ys.length := by have := congrArg List.length h; simpa [ints_len] using this
  refine eq_of_gi hl fun j hj => ?_
  have h1 := ints_get (xs := xs) hj
  rw [h, ints_get (by omega)] at h1
  simpa using h1.symm
theorem Own.same {w : World} {lo lo' n c g : Nat} {xs ys : List Int} (h : Own w lo (.slice (some ⟨g, 0, none⟩) n c) xs) (k : Own w lo' (.slice (some ⟨g, 0, none⟩) n c) ys) (hx : xs.length = n) (hy : ys.length = n) : xs = ys := by
  obtain ⟨cur, h1, _, _, h2, _⟩ := h.heap hx
  obtain ⟨cur', k1, _, _, k2, _⟩ := k.heap hy
  rw [h1] at k1
  injection k1 with k1
  injection k1 with k1
  subst k1
  exact ints_inj (h2.symm.trans k2)
/-- The last element dropped. -/
theorem Own.cut {w : World} {lo L c g : Nat} {xs : List Int} {s : Int} (h : Own w lo (.slice (some ⟨g, 0, none⟩) (L + 1) c) (xs ++ [s])) (hx : xs.length = L) : Own w lo (.slice (some ⟨g, 0, none⟩) L c) xs := by
  subst hx
  rcases h.2 with ⟨hv, _⟩ | ⟨g', cap, cur, hv, hg, hh, hn, hm, hs, ht⟩
  · simp at hv
  · simp only [Value.slice.injEq, Option.some.injEq, Addr.mk.injEq, and_true] at hv
    obtain ⟨rfl, _, rfl⟩ := hv
    refine ⟨by simp [ints_len], .inr ⟨g, c, cur, rfl, hg, hh, by simp at hn; omega, hm, hs, ?_⟩⟩
    have := congrArg (List.take xs.length) ht
    rw [List.take_take] at this
    simpa [ints, Nat.min_eq_left (Nat.le_succ _)] using this
theorem gi_last {xs : List Int} {s : Int} {L : Nat} (h : xs.length = L) : gi (xs ++ [s]) L = s := by subst h; exact gi_append_last
theorem snoc_of {xs : List Int} {L : Nat} (h : xs.length = L + 1) : ∃ ys s, xs = ys ++ [s] ∧ ys.length = L := by
  refine ⟨xs.dropLast, xs.getLast (by intro e; rw [e] at h; simp at h), (List.dropLast_concat_getLast _).symm, by simp [h]⟩

theorem two_new (w : World) (a b : Value) (t : TypeId) (B : Nat) (hB : w.heap.size = B) : ∀ j u, ([a, b] : List Value)[j]? = some u → (w.alloc (.cells #[a, b] t)).cell? ((⟨B, 0, none⟩ : Addr).add j) = some u := by
  subst hB
  intro j u hj
  have h := heap_alloc_new w (.cells #[a, b] t)
  rw [show (⟨w.heap.size, 0, none⟩ : Addr).add j = ⟨w.heap.size, j, none⟩ from by unfold Addr.add; split <;> simp_all, cell_of_row _ w.heap.size j _ _ (0, 0) h]
  simpa using hj
/-- How many numbers of a row are still bare. -/
noncomputable def bareOf (w : World) (g n c : Nat) : Nat := leastOf fun f => ∃ ls : List Int, ls.length = n ∧ Own w 0 (.slice (some ⟨g, 0, none⟩) n c) ls ∧ f = bare ls
theorem bareOf_eq {w : World} {lo g n c : Nat} {ls : List Int} (h : Own w lo (.slice (some ⟨g, 0, none⟩) n c) ls) (hl : ls.length = n) : bareOf w g n c = bare ls := by
  obtain ⟨⟨ls', h1, h2, h3⟩, _⟩ := leastOf_spec (p := fun f => ∃ ls : List Int, ls.length = n ∧ Own w 0 (.slice (some ⟨g, 0, none⟩) n c) ls ∧ f = bare ls) ⟨bare ls, ls, hl, h.mono (Nat.zero_le _), rfl⟩
  unfold bareOf
  rw [h3, h2.same h h1 hl]
def slen : Value → Nat
  | .slice _ n _ => n
  | _ => 0

end Go.Proofs.Ytolbcdhkjhbepaa
