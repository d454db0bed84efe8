/-
  Plain: orbits: the order of the two does not count; of one alone they are its cycles.
-/
import Derived.Test.YteajaikgeephmaaPar12
import Derived.Test.YteajaikgeephmaaSpecPow
namespace Go.Proofs.Yteajaikgeephmaa

theorem Lead.swap {p q : List Int} {x y : Nat} (h : Lead p q x y) : Lead q p x y := by
  induction h with
  | refl => exact .refl _
  | one _ ih => exact .two ih
  | two _ ih => exact .one ih
theorem orb_swap (p q : List Int) (x : Nat) : orb q p x = orb p q x :=
  Nat.le_antisymm (orb_least (orb_lead (p := p) (q := q)).swap) (orb_least (orb_lead (p := q) (q := p)).swap)
theorem orbL_swap {p q : List Int} (hl : p.length = q.length) : orbL q p = orbL p q := by
  refine eq_of_gi (by rw [orbL_len, orbL_len, hl]) fun j hj => ?_
  rw [orbL_len] at hj
  rw [gi_orbL hj, gi_orbL (by omega), orb_swap]
theorem lead_in {p c : List Int} (hc : Cyc p c) {x y : Nat} (h : Lead p (sameL p.length) x y) (hx : inC c x) : inC c y := by
  induction h with
  | refl => exact hx
  | one _ ih =>
    obtain ⟨j, hj, e⟩ := ih
    exact ⟨(j + 1) % c.length, Nat.mod_lt _ hc.pos, by rw [← hc.round j hj, e]⟩
  | @two y _ ih =>
    obtain ⟨j, hj, e⟩ := ih
    have hy : y < p.length := by rw [← e]; exact hc.lt j hj
    have e2 : gn (sameL p.length) y = y := gn_of (gi_tab hy)
    rw [e2]
    exact ⟨j, hj, e⟩
theorem orb_cyc {p : List Int} (hp : Vld p) (hs : Vld (sameL p.length)) {i : Nat} (hi : i < (cyclesL p).length) {k : Nat} (hk : k < ((cyclesL p).getD i []).length) :
    orb p (sameL p.length) (gn ((cyclesL p).getD i []) k) = gn ((cyclesL p).getD i []) 0 := by
  have hc := cyc_at hp hi
  have hl : p.length = (sameL p.length).length := by rw [sameL, tab_len]
  refine Nat.le_antisymm (orb_least ?_) ?_
  · obtain ⟨m, hm⟩ := hc.reach hc.pos hk
    rw [← hm]
    exact Lead.along1 _ _ _ _
  · have h1 : Lead p (sameL p.length) (gn ((cyclesL p).getD i []) k) (orb p (sameL p.length) (gn ((cyclesL p).getD i []) k)) :=
      (orb_lead (p := p) (q := sameL p.length)).sym hp hs hl (Nat.lt_of_le_of_lt orb_le (hc.lt k hk))
    obtain ⟨j, hj, e⟩ := lead_in hc h1 ⟨k, hk, rfl⟩
    rw [← e]
    exact head_least hp hi hj

end Go.Proofs.Yteajaikgeephmaa
