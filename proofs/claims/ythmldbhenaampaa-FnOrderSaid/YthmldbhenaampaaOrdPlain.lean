/-
  Plain: the order of a permutation is the least common multiple of its cycles' lengths.
-/
import Derived.Test.YthmldbhenaampaaOrb
namespace Go.Proofs.Ythmldbhenaampaa

def lcmL : List (List Int) → Nat
  | [] => 1
  | c :: r => Nat.lcm c.length (lcmL r)
theorem lcmL_snoc (a : List (List Int)) (c : List Int) : lcmL (a ++ [c]) = Nat.lcm (lcmL a) c.length := by
  induction a with
  | nil => simp [lcmL, Nat.lcm_comm]
  | cons x a ih => simp only [List.cons_append, lcmL, ih, Nat.lcm_assoc]
theorem lcmL_dvd {cs : List (List Int)} {m : Nat} : lcmL cs ∣ m ↔ ∀ c, c ∈ cs → c.length ∣ m := by
  induction cs with
  | nil => simp [lcmL]
  | cons c r ih =>
    rw [lcmL, Nat.lcm_dvd_iff, ih]
    simp
theorem lcmL_pos {cs : List (List Int)} (h : ∀ c, c ∈ cs → 0 < c.length) : 0 < lcmL cs := by
  induction cs with
  | nil => simp [lcmL]
  | cons c r ih =>
    rw [lcmL]
    exact Nat.lcm_pos (h c (by simp)) (ih (fun d hd => h d (by simp [hd])))
theorem lcmL_le {cs : List (List Int)} (h : ∀ c, c ∈ cs → 0 < c.length ∧ c.length ≤ 13) : lcmL cs ≤ 13 ^ cs.length := by
  induction cs with
  | nil => simp [lcmL]
  | cons c r ih =>
    rw [lcmL, List.length_cons, Nat.pow_succ, Nat.mul_comm]
    have h1 := ih (fun d hd => h d (by simp [hd]))
    have h2 := (h c (by simp)).2
    have h3 : Nat.lcm c.length (lcmL r) ≤ c.length * lcmL r := Nat.le_of_dvd (Nat.mul_pos (h c (by simp)).1 (lcmL_pos (fun d hd => (h d (by simp [hd])).1))) (Nat.lcm_dvd_mul _ _)
    exact Nat.le_trans h3 (Nat.mul_le_mul h2 h1)

theorem gn_apart {p c : List Int} (h : Cyc p c) {i j : Nat} (hi : i < c.length) (hj : j < c.length) (e : gn c i = gn c j) : i = j := by
  rcases Nat.lt_trichotomy i j with h1 | h1 | h1
  · exact absurd e (h.apart i j h1 hj)
  · exact h1
  · exact absurd e.symm (h.apart j i h1 hi)
/-- m steps lead each point back just where the order divides m. -/
theorem it_id_iff {p : List Int} (hp : Vld p) (m : Nat) : (∀ x, x < p.length → it p m x = x) ↔ lcmL (cyclesL p) ∣ m := by
  obtain ⟨h1, h2, _⟩ := cyclesL_spec hp
  rw [lcmL_dvd]
  constructor
  · intro h c hc
    have hcy := h1 c hc
    have h3 := h (gn c 0) (hcy.lt 0 hcy.pos)
    rw [hcy.it m hcy.pos, Nat.zero_add] at h3
    have h4 := gn_apart hcy (Nat.mod_lt _ hcy.pos) hcy.pos h3
    exact Nat.dvd_of_mod_eq_zero h4
  · intro h x hx
    obtain ⟨c, hc, j, hj, rfl⟩ := h2 x hx
    have hcy := h1 c hc
    rw [hcy.it m hj]
    congr 1
    obtain ⟨q, hq⟩ := h c hc
    rw [hq, Nat.add_mul_mod_self_left, Nat.mod_eq_of_lt hj]
/-- Does a list move some point? -/
def movesB (xs : List Int) : Bool := (List.range xs.length).any fun i => gi xs i != (i : Int)
theorem moves_iter {p : List Int} (hp : Vld p) (m : Nat) : movesB (iterL p m) = false ↔ lcmL (cyclesL p) ∣ m := by
  rw [← it_id_iff hp m]
  unfold movesB
  rw [iterL_len, List.any_eq_false]
  constructor
  · intro h x hx
    have := h x (by simpa using hx)
    rw [iterL, gi_tab hx] at this
    have h2 : ((it p m x : Nat) : Int) = (x : Int) := by simpa using this
    exact Int.ofNat.inj h2
  · intro h x hx
    simp only [List.mem_range] at hx
    rw [iterL, gi_tab hx, h x hx]
    simp
def ordR (p : List Int) : Int := if vld p = true then (lcmL (cyclesL p) : Int) else -1
theorem ord_pos {p : List Int} (hp : Vld p) : 0 < lcmL (cyclesL p) := lcmL_pos (fun c hc => ((cyclesL_spec hp).1 c hc).pos)
theorem ord_le {p : List Int} (hp : Vld p) (hl : (cyclesL p).length ≤ 12) : lcmL (cyclesL p) ≤ 23298085122481 := by
  refine Nat.le_trans (lcmL_le (fun c hc => ⟨((cyclesL_spec hp).1 c hc).pos, cyclesL_short hc⟩)) ?_
  refine Nat.le_trans (Nat.pow_le_pow_right (by omega) hl) ?_
  decide
end Go.Proofs.Ythmldbhenaampaa
