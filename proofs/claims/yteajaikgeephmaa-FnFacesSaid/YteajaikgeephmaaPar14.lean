/-
  Plain: a point and the next one stand in the same cycle; each point stands in one.
-/
import Derived.Test.YteajaikgeephmaaPar12
namespace Go.Proofs.Yteajaikgeephmaa

theorem hasB_in {p c : List Int} (hc : Cyc p c) (x : Nat) : hasB c (x : Int) = true ↔ inC c x := by
  rw [hasB_iff]
  constructor
  · rintro ⟨j, hj, e⟩
    rw [hc.nat j hj] at e
    exact ⟨j, hj, by omega⟩
  · rintro ⟨j, hj, e⟩
    exact ⟨j, hj, by rw [hc.nat j hj, e]⟩
theorem ring_at {p : List Int} (hp : Vld p) {x : Nat} (hx : x < p.length) : ∃ q, q < (cyclesL p).length ∧ inC ((cyclesL p).getD q []) x := by
  obtain ⟨c, hc, h⟩ := (cyclesL_spec hp).2.1 x hx
  obtain ⟨q, hq, rfl⟩ := List.getElem_of_mem hc
  exact ⟨q, hq, by rw [getD_eq hq]; exact h⟩
theorem ring_one {p : List Int} (hp : Vld p) {a b x : Nat} (ha : a < (cyclesL p).length) (hb : b < (cyclesL p).length) (h1 : inC ((cyclesL p).getD a []) x) (h2 : inC ((cyclesL p).getD b []) x) : a = b := by
  rw [getD_eq ha] at h1
  rw [getD_eq hb] at h2
  rcases Nat.lt_trichotomy a b with h | h | h
  · exact absurd h2 (List.pairwise_iff_getElem.1 (cyclesL_spec hp).2.2 a b ha hb h x h1)
  · exact h
  · exact absurd h1 (List.pairwise_iff_getElem.1 (cyclesL_spec hp).2.2 b a hb ha h x h2)
theorem ring_next {p : List Int} (hp : Vld p) {q y : Nat} (hq : q < (cyclesL p).length) (hy : y < p.length) :
    hasB ((cyclesL p).getD q []) (gn p y : Int) = hasB ((cyclesL p).getD q []) (y : Int) := by
  have hc := cyc_at hp hq
  rw [Bool.eq_iff_iff, hasB_in hc, hasB_in hc]
  constructor
  · intro h
    obtain ⟨a, ha, j, hj, e⟩ := ring_at hp hy
    have hca := cyc_at hp ha
    have h2 : inC ((cyclesL p).getD a []) (gn p y) := ⟨(j + 1) % ((cyclesL p).getD a []).length, Nat.mod_lt _ hca.pos, by rw [← hca.round j hj, e]⟩
    have := ring_one hp ha hq h2 h
    subst this
    exact ⟨j, hj, e⟩
  · rintro ⟨j, hj, e⟩
    exact ⟨(j + 1) % ((cyclesL p).getD q []).length, Nat.mod_lt _ hc.pos, by rw [← hc.round j hj, e]⟩
def foundB (p : List Int) (x : Int) (i : Nat) : Bool := (List.range i).any fun q => hasB ((cyclesL p).getD q []) x
theorem foundB_succ (p : List Int) (x : Int) (i : Nat) : foundB p x (i + 1) = (foundB p x i || hasB ((cyclesL p).getD i []) x) := by
  simp [foundB, List.range_succ, List.any_append]
theorem foundB_all {p : List Int} (hp : Vld p) {x : Nat} (hx : x < p.length) : foundB p (x : Int) (cyclesL p).length = true := by
  obtain ⟨q, hq, h⟩ := ring_at hp hx
  rw [foundB, List.any_eq_true]
  exact ⟨q, List.mem_range.2 hq, (hasB_in (cyc_at hp hq) x).2 h⟩

end Go.Proofs.Yteajaikgeephmaa
