/-
  Plain, for the law on the order: it is at most 81; it is the one number up to itself that all lengths divide; that power stays.
-/
import Derived.Test.YteajaikgeephmaaOrb
import Derived.Test.YteajaikgeephmaaType
namespace Go.Proofs.Yteajaikgeephmaa

def flatN : List (List Int) → List Nat
  | [] => []
  | c :: r => (List.range c.length).map (gn c) ++ flatN r
def sumL : List (List Int) → Nat
  | [] => 0
  | c :: r => c.length + sumL r
theorem flatN_len : ∀ cs, (flatN cs).length = sumL cs
  | [] => rfl
  | c :: r => by simp [flatN, sumL, flatN_len r]
theorem mem_flatN {cs : List (List Int)} {x : Nat} (h : x ∈ flatN cs) : ∃ c, c ∈ cs ∧ ∃ j, j < c.length ∧ gn c j = x := by
  induction cs with
  | nil => simp [flatN] at h
  | cons c r ih =>
    rw [flatN, List.mem_append] at h
    rcases h with h | h
    · obtain ⟨j, hj, e⟩ := List.mem_map.1 h
      exact ⟨c, by simp, j, List.mem_range.1 hj, e⟩
    · obtain ⟨d, hd, r⟩ := ih h
      exact ⟨d, by simp [hd], r⟩
theorem flatN_nodup {p : List Int} {cs : List (List Int)} (h1 : ∀ c, c ∈ cs → Cyc p c) (h2 : cs.Pairwise (fun c d => ∀ x, inC c x → ¬ inC d x)) : (flatN cs).Nodup := by
  induction cs with
  | nil => simp [flatN]
  | cons c r ih =>
    rw [List.pairwise_cons] at h2
    rw [flatN, List.nodup_append]
    have hc := h1 c (by simp)
    refine ⟨?_, ih (fun d hd => h1 d (by simp [hd])) h2.2, ?_⟩
    · rw [List.Nodup, List.pairwise_map]
      refine List.Pairwise.imp_of_mem ?_ List.nodup_range
      intro a b ha hb hne e
      exact hne (gn_apart hc (List.mem_range.1 ha) (List.mem_range.1 hb) e)
    · intro x hx y hy e
      subst e
      obtain ⟨j, hj, e1⟩ := List.mem_map.1 hx
      obtain ⟨d, hd, i, hi, e2⟩ := mem_flatN hy
      exact h2.1 d hd x ⟨j, List.mem_range.1 hj, e1⟩ ⟨i, hi, e2⟩
theorem sum_le {p : List Int} (hp : Vld p) : sumL (cyclesL p) ≤ p.length := by
  obtain ⟨h1, _, h3⟩ := cyclesL_spec hp
  rw [← flatN_len]
  refine nodup_len _ _ (flatN_nodup h1 h3) (fun x hx => ?_)
  obtain ⟨c, hc, j, hj, rfl⟩ := mem_flatN hx
  exact (h1 c hc).lt j hj
theorem cube_le (n : Nat) (h : n ≤ 12) : n ^ 3 ≤ 3 ^ n := by
  have : ∀ n, n < 13 → n ^ 3 ≤ 3 ^ n := by decide
  exact this n (by omega)
theorem lcm_cube {cs : List (List Int)} (h : ∀ c, c ∈ cs → 0 < c.length) (h2 : sumL cs ≤ 12) : (lcmL cs) ^ 3 ≤ 3 ^ sumL cs := by
  induction cs with
  | nil => simp [lcmL, sumL]
  | cons c r ih =>
    rw [sumL] at h2
    have h1 := ih (fun d hd => h d (by simp [hd])) (by omega)
    have h3 : Nat.lcm c.length (lcmL r) ≤ c.length * lcmL r := Nat.le_of_dvd (Nat.mul_pos (h c (by simp)) (lcmL_pos (fun d hd => h d (by simp [hd])))) (Nat.lcm_dvd_mul _ _)
    rw [lcmL, sumL, Nat.pow_add]
    refine Nat.le_trans (Nat.pow_le_pow_left h3 3) ?_
    rw [Nat.mul_pow]
    exact Nat.mul_le_mul (cube_le _ (by omega)) h1
theorem ord_le81 {p : List Int} (hp : Vld p) : lcmL (cyclesL p) ≤ 81 := by
  have hs := sum_le hp
  have h12 := hp.2.1
  have h := lcm_cube (fun c hc => ((cyclesL_spec hp).1 c hc).pos) (Nat.le_trans hs h12)
  rcases Nat.lt_or_ge 81 (lcmL (cyclesL p)) with hlt | hge
  · have h1 : 82 ^ 3 ≤ lcmL (cyclesL p) ^ 3 := Nat.pow_le_pow_left hlt 3
    have h2 : 3 ^ sumL (cyclesL p) ≤ 3 ^ 12 := Nat.pow_le_pow_right (by omega) (Nat.le_trans hs h12)
    have : (82 : Nat) ^ 3 ≤ 3 ^ 12 := Nat.le_trans h1 (Nat.le_trans h h2)
    exact absurd this (by decide)
  · exact hge
theorem mem_type {p : List Int} (hp : Vld p) (k : Int) : k ∈ typeL p ↔ ∃ c, c ∈ cyclesL p ∧ k = (c.length : Int) := by
  rw [← List.count_pos_iff, lens_count hp, List.count_pos_iff, lens, List.mem_map]
  exact ⟨fun ⟨c, hc, e⟩ => ⟨c, hc, e.symm⟩, fun ⟨c, hc, e⟩ => ⟨c, hc, e.symm⟩⟩
/-- Each kind of the type divides n, n from 1 to the order, just where n is the order. -/
theorem all_div_iff {p : List Int} (hp : Vld p) (n : Nat) (h1 : 1 ≤ n) (h2 : n ≤ lcmL (cyclesL p)) : (∀ k, k ∈ typeL p → (n : Int).tmod k = 0) ↔ n = lcmL (cyclesL p) := by
  have hd : (∀ k, k ∈ typeL p → (n : Int).tmod k = 0) ↔ lcmL (cyclesL p) ∣ n := by
    rw [lcmL_dvd]
    constructor
    · intro h c hc
      have := h c.length ((mem_type hp _).2 ⟨c, hc, rfl⟩)
      rw [Int.tmod_eq_emod_of_nonneg (by omega)] at this
      exact Int.natCast_dvd_natCast.1 (Int.dvd_of_emod_eq_zero this)
    · intro h k hk
      obtain ⟨c, hc, rfl⟩ := (mem_type hp k).1 hk
      rw [Int.tmod_eq_emod_of_nonneg (by omega)]
      exact Int.emod_eq_zero_of_dvd (Int.natCast_dvd_natCast.2 (h c hc))
  rw [hd]
  constructor
  · intro h; exact Nat.le_antisymm h2 (Nat.le_of_dvd h1 h)
  · intro h; rw [h]; exact Nat.dvd_refl _
theorem pow_ord {p : List Int} (hp : Vld p) : powL p (lcmL (cyclesL p) : Int) = tab p.length fun x => (x : Int) := by
  unfold powL
  have key : ∀ x, x < p.length → powAt p (lcmL (cyclesL p) : Int) x = x := fun x hx => by
    rw [powAt, if_neg (by omega), Int.toNat_natCast]
    exact (it_id_iff hp _).2 (Nat.dvd_refl _) x hx
  apply eq_of_gi (by simp [tab_len])
  intro j hj
  rw [tab_len] at hj
  rw [gi_tab hj, gi_tab hj, key j hj]

end Go.Proofs.Yteajaikgeephmaa
