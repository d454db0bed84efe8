/-
  The gluings that go on from a list in which some sides have no partner yet (-1), in order: as plain lists.
-/
import Derived.Test.YtfcgfeopmnjfjaaGlu
namespace Go.Proofs.Ytfcgfeopmnjfjaa

/-- The first side that has no partner. -/
def ff (p : List Int) : Nat := p.findIdx fun x => x == -1
theorem ff_le (p : List Int) : ff p ≤ p.length := List.findIdx_le_length
theorem ff_low {p : List Int} {j : Nat} (h : j < ff p) : gi p j ≠ -1 := by
  have hj : j < p.length := Nat.lt_of_lt_of_le h (ff_le p)
  have := List.not_of_lt_findIdx h
  rw [gi_eq hj]; simpa using this
theorem ff_at {p : List Int} (h : ff p < p.length) : gi p (ff p) = -1 := by
  have := List.findIdx_getElem (w := h)
  rw [gi_eq h]; simp only [beq_iff_eq] at this; exact this
theorem ff_eq {p : List Int} {s : Nat} (hs : s ≤ p.length) (h : ∀ j, j < s → gi p j ≠ -1) (h' : s < p.length → gi p s = -1) : ff p = s := by
  rcases Nat.lt_trichotomy (ff p) s with c | c | c
  · exact absurd (ff_at (by omega)) (h _ c)
  · exact c
  · exact absurd (h' (by have := ff_le p; omega)) (ff_low c)

def gluedL (p : List Int) (s k : Nat) : List Int := (p.set s k).set k s
theorem gluedL_len (p : List Int) (s k : Nat) : (gluedL p s k).length = p.length := by simp [gluedL]
theorem gi_gluedL {p : List Int} {s k : Nat} (hs : s < p.length) (hk : k < p.length) (j : Nat) : gi (gluedL p s k) j = if j = k then (s : Int) else if j = s then (k : Int) else gi p j := by
  unfold gluedL
  rw [gi_set _ _ _ _ (by simpa using hk), gi_set _ _ _ _ hs]
/-- Sides that have none. -/
noncomputable def freeN (p : List Int) : Nat := sm p.length fun j => ch (gi p j = -1)
theorem freeN_zero {p : List Int} (h : freeN p = 0) : ff p = p.length := by
  rcases Nat.lt_or_ge (ff p) p.length with c | c
  · exfalso
    have h1 : sm p.length (fun j => ch (j = ff p)) = 1 := by
      rw [sm_one (i0 := ff p) _ c (fun k _ hk => ch_false hk)]; exact ch_true rfl
    have h2 : sm p.length (fun j => ch (j = ff p)) ≤ freeN p := sm_le _ (fun i hi => by
      by_cases e : i = ff p
      · rw [ch_true e, ch_true (by rw [e]; exact ff_at c)]; exact Nat.le_refl _
      · rw [ch_false e]; omega)
    omega
  · have := ff_le p; omega
theorem freeN_glued {p : List Int} {s k : Nat} (hs : s < p.length) (hk : k < p.length) (hne : s ≠ k) (h1 : gi p s = -1) (h2 : gi p k = -1) : freeN (gluedL p s k) + 2 = freeN p := by
  unfold freeN
  rw [gluedL_len]
  have e1 : sm p.length (fun j => ch (j = s)) = 1 := by
    rw [sm_one (i0 := s) _ hs (fun k _ hk => ch_false hk)]; exact ch_true rfl
  have e2 : sm p.length (fun j => ch (j = k)) = 1 := by
    rw [sm_one (i0 := k) _ hk (fun k _ hk => ch_false hk)]; exact ch_true rfl
  have : sm p.length (fun j => ch (gi p j = -1)) = sm p.length (fun j => ch (gi (gluedL p s k) j = -1) + (ch (j = s) + ch (j = k))) := by
    refine sm_congr _ (fun j hj => ?_)
    rw [gi_gluedL hs hk]
    by_cases a : j = k
    · rw [if_pos a, ch_true a, ch_false (show ¬ (j = s) by omega), ch_true (by rw [a]; exact h2), ch_false (show ¬ ((s : Int) = -1) by omega)]
    · rw [if_neg a, ch_false a]
      by_cases b : j = s
      · rw [if_pos b, ch_true b, ch_true (by rw [b]; exact h1), ch_false (show ¬ ((k : Int) = -1) by omega)]
      · rw [if_neg b, ch_false b]; omega
  rw [this, sm_add, sm_add, e1, e2]

/-- The ways to go on, with at most so many pairs to come. -/
def comps : Nat → List Int → List (List Int)
  | 0, p => [p]
  | f + 1, p => if ff p = p.length then [p] else (List.range p.length).flatMap fun k => if ff p < k ∧ gi p k = -1 then comps f (gluedL p (ff p) k) else []
/-- .. up to a partner of the first. -/
def compU (f : Nat) (p : List Int) (k : Nat) : List (List Int) := (List.range k).flatMap fun k => if ff p < k ∧ gi p k = -1 then comps f (gluedL p (ff p) k) else []
theorem comps_full {p : List Int} (h : ff p = p.length) : ∀ f, comps f p = [p]
  | 0 => rfl
  | f + 1 => by unfold comps; rw [if_pos h]
theorem comps_more {p : List Int} (f : Nat) (h : ff p < p.length) : comps (f + 1) p = compU f p p.length := by
  unfold comps; rw [if_neg (by omega)]; rfl
theorem compU_succ (f : Nat) (p : List Int) (k : Nat) : compU f p (k + 1) = compU f p k ++ (if ff p < k ∧ gi p k = -1 then comps f (gluedL p (ff p) k) else []) := by
  simp [compU, List.range_succ]
theorem compU_low (f : Nat) (p : List Int) : ∀ k, k ≤ ff p + 1 → compU f p k = []
  | 0, _ => rfl
  | k + 1, h => by rw [compU_succ, compU_low f p k (by omega), if_neg (by omega)]; rfl
theorem compU_yes {f : Nat} {p : List Int} {k : Nat} (h : ff p < k) (h' : gi p k = -1) : compU f p (k + 1) = compU f p k ++ comps f (gluedL p (ff p) k) := by
  rw [compU_succ, if_pos ⟨h, h'⟩]
theorem compU_no {f : Nat} {p : List Int} {k : Nat} (h' : gi p k ≠ -1) : compU f p (k + 1) = compU f p k := by
  rw [compU_succ, if_neg (fun e => h' e.2), List.append_nil]

/-- Each side has none, or a partner that has it. -/
def PG (p : List Int) : Prop := ∀ i, i < p.length → gi p i = -1 ∨ (0 ≤ gi p i ∧ gi p i < p.length ∧ gi p i ≠ i ∧ gi p (gn p i) = i)
theorem PG.glued {p : List Int} (h : PG p) {s k : Nat} (hs : s < p.length) (hk : k < p.length) (hne : s ≠ k) (h1 : gi p s = -1) (h2 : gi p k = -1) : PG (gluedL p s k) := by
  intro i hi
  rw [gluedL_len] at hi ⊢
  by_cases a : i = k
  · subst a
    right
    have e : gi (gluedL p s i) i = (s : Int) := by rw [gi_gluedL hs hk, if_pos rfl]
    rw [gn_of e, e, gi_gluedL hs hk, if_neg hne, if_pos rfl]
    exact ⟨by omega, by omega, by omega, rfl⟩
  · by_cases b : i = s
    · subst b
      right
      have e : gi (gluedL p i k) i = (k : Int) := by rw [gi_gluedL hs hk, if_neg a, if_pos rfl]
      rw [gn_of e, e, gi_gluedL hs hk, if_pos rfl]
      exact ⟨by omega, by omega, by omega, rfl⟩
    · have e : gi (gluedL p s k) i = gi p i := by rw [gi_gluedL hs hk, if_neg a, if_neg b]
      rcases h i hi with c | ⟨c1, c2, c3, c4⟩
      · left; rw [e]; exact c
      · right
        have eg : gn (gluedL p s k) i = gn p i := by unfold gn; rw [e]
        rw [e, eg, gi_gluedL hs hk]
        refine ⟨c1, c2, c3, ?_⟩
        rw [if_neg (fun q => by rw [q, h2] at c4; omega), if_neg (fun q => by rw [q, h1] at c4; omega)]
        exact c4
theorem PG.full {p : List Int} (h : PG p) (hf : ff p = p.length) (h2 : 2 ≤ p.length) (h10 : p.length ≤ 10) : IsG p := by
  refine ⟨h2, h10, fun i hi => ?_⟩
  rcases h i hi with c | c
  · exact absurd c (ff_low (by omega))
  · exact c

def noneL (n : Nat) : List Int := List.replicate n (-1)
theorem noneL_len (n : Nat) : (noneL n).length = n := by simp [noneL]
theorem gi_noneL {n j : Nat} (h : j < n) : gi (noneL n) j = -1 := by rw [gi_eq (by rw [noneL_len]; exact h)]; simp [noneL]
theorem noneL_pg (n : Nat) : PG (noneL n) := fun i hi => .inl (gi_noneL (by rw [noneL_len] at hi; exact hi))
theorem noneL_free (n : Nat) : freeN (noneL n) = n := by
  unfold freeN
  rw [noneL_len, sm_congr n (G := fun _ => 1) (fun i hi => ch_true (gi_noneL hi)), sm_const]; omega

/-- All gluings with 2 n sides. -/
def allG (n : Nat) : List (List Int) := comps n (noneL (2 * n))
theorem comps_ok : ∀ (f : Nat) (p : List Int), PG p → freeN p ≤ 2 * f → 2 ≤ p.length → p.length ≤ 10 → ∀ q, q ∈ comps f p → IsG q ∧ q.length = p.length
  | 0, p, h, hf, h2, h10, q, hq => by
    have : q = p := by simpa [comps] using hq
    subst this
    exact ⟨h.full (freeN_zero (by omega)) h2 h10, rfl⟩
  | f + 1, p, h, hf, h2, h10, q, hq => by
    unfold comps at hq
    split at hq
    · rename_i e
      have : q = p := by simpa using hq
      subst this
      exact ⟨h.full e h2 h10, rfl⟩
    · rename_i e
      have hs : ff p < p.length := by have := ff_le p; omega
      obtain ⟨k, hk, hm⟩ := List.mem_flatMap.1 hq
      have hk := List.mem_range.1 hk
      split at hm
      · rename_i c
        have hfr := freeN_glued hs hk (by omega) (ff_at hs) c.2
        have := comps_ok f _ (h.glued hs hk (by omega) (ff_at hs) c.2) (by omega) (by rw [gluedL_len]; exact h2) (by rw [gluedL_len]; exact h10) q hm
        rw [gluedL_len] at this
        exact this
      · simp at hm
/-- Each gluing that goes on from a list is among its ways. -/
theorem comps_all : ∀ (f : Nat) (p q : List Int), PG p → freeN p ≤ 2 * f → IsG q → q.length = p.length → (∀ j, j < p.length → gi p j ≠ -1 → gi q j = gi p j) → q ∈ comps f p := by
  intro f
  induction f with
  | zero =>
    intro p q h hf hq hl ha
    have hz := freeN_zero (p := p) (by omega)
    have : q = p := eq_of_gi hl (fun j hj => ha j (by omega) (ff_low (by omega)))
    simp [comps, this]
  | succ f ih =>
    intro p q h hf hq hl ha
    unfold comps
    split
    · rename_i e
      have : q = p := eq_of_gi hl (fun j hj => ha j (by omega) (ff_low (by omega)))
      simp [this]
    · rename_i e
      have hs : ff p < p.length := by have := ff_le p; omega
      have hsq : ff p < q.length := by omega
      obtain ⟨g1, g2, g3, g4⟩ := hq.gn_at hsq
      have hpk : gi p (gn q (ff p)) = -1 := by
        rcases h (gn q (ff p)) (by omega) with c | ⟨c1, c2, c3, c4⟩
        · exact c
        · exfalso
          have hb := ha (gn q (ff p)) (by omega) (by omega)
          have e1 : gn p (gn q (ff p)) = gn q (gn q (ff p)) := by unfold gn at hb ⊢; rw [hb]
          rw [e1, g4, ff_at hs] at c4
          omega
      have hlow : ff p < gn q (ff p) := by
        rcases Nat.lt_trichotomy (gn q (ff p)) (ff p) with c | c | c
        · exact absurd hpk (ff_low c)
        · omega
        · exact c
      refine List.mem_flatMap.2 ⟨gn q (ff p), List.mem_range.2 (by omega), ?_⟩
      rw [if_pos ⟨hlow, hpk⟩]
      have hfr := freeN_glued hs (by omega) (by omega) (ff_at hs) hpk
      refine ih _ q (h.glued hs (by omega) (by omega) (ff_at hs) hpk) (by omega) hq (by rw [gluedL_len]; exact hl) (fun j hj hj' => ?_)
      rw [gluedL_len] at hj
      rw [gi_gluedL hs (by omega)] at hj' ⊢
      by_cases a : j = gn q (ff p)
      · rw [if_pos a]
        have hj2 : j < q.length := by omega
        rw [(hq.gn_at hj2).1, a, g4]
      · rw [if_neg a] at hj' ⊢
        by_cases b : j = ff p
        · rw [if_pos b, b, g1]
        · rw [if_neg b] at hj' ⊢
          exact ha j hj hj'
theorem IsG.even {q : List Int} (h : IsG q) : ∃ n, q.length = 2 * n ∧ 1 ≤ n ∧ n ≤ 5 := by
  have hp : q.length = sm q.length (fun i => ch (i < gn q i)) + sm q.length (fun i => ch (gn q i < i)) := by
    rw [← sm_add]
    have : sm q.length (fun _ => 1) = q.length := by rw [sm_const]; omega
    rw [← this]
    conv => rhs; rw [this]
    refine sm_congr _ (fun i hi => ?_)
    have := (h.gn_at hi).2.2.1
    by_cases c : i < gn q i
    · rw [ch_true c, ch_false (by omega)]
    · rw [ch_false c, ch_true (by omega)]
  have hs : sm q.length (fun i => ch (gn q i < i)) = sm q.length (fun i => ch (i < gn q i)) := by
    have hprm : Prm q.length (gn q) := ⟨fun i hi => (h.gn_at hi).2.1, fun i j hi hj e => by
      have h1 := (h.gn_at hi).2.2.2
      have h2 := (h.gn_at hj).2.2.2
      rw [e, h2] at h1; omega⟩
    rw [← sm_prm (fun i => ch (i < gn q i)) q.length (gn q) hprm]
    refine sm_congr _ (fun i hi => ?_)
    rw [(h.gn_at hi).2.2.2]
  have h1 := h.1
  have h2 := h.2.1
  exact ⟨sm q.length (fun i => ch (i < gn q i)), by omega, by omega, by omega⟩
/-- A list is a gluing with 2 n sides where it is in the list of all. -/
theorem allG_iff {n : Nat} (h1 : 1 ≤ n) (h5 : n ≤ 5) (q : List Int) : q ∈ allG n ↔ IsG q ∧ q.length = 2 * n := by
  have hf := noneL_free (2 * n)
  constructor
  · intro h
    have := comps_ok n _ (noneL_pg _) (by omega) (by rw [noneL_len]; omega) (by rw [noneL_len]; omega) q h
    rwa [noneL_len] at this
  · rintro ⟨hq, hl⟩
    exact comps_all n _ q (noneL_pg _) (by omega) hq (by rw [noneL_len]; exact hl) (fun j hj h => absurd (gi_noneL (by rwa [noneL_len] at hj)) h)

end Go.Proofs.Ytfcgfeopmnjfjaa
