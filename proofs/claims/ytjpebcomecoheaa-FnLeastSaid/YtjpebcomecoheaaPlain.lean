/-
  Plain lists of ints: elements, permutations as lists, what is done with them. No program in sight.
-/
namespace Go.Proofs.Ytjpebcomecoheaa

/-- Element j of a list of ints, 0 beyond its end. Plain: the walk does not look into it. -/
def gi (xs : List Int) (j : Nat) : Int := xs.getD j 0
theorem gi_eq {xs : List Int} {j : Nat} (h : j < xs.length) : gi xs j = xs[j] := by simp [gi, List.getD, h]

/-- Lists of ints are equal: a name that the walk does not open. -/
def eqB (xs ys : List Int) : Bool := decide (xs = ys)
theorem eqB_true {xs ys : List Int} (h : xs = ys) : eqB xs ys = true := by simp [eqB, h]
theorem eqB_refl (xs : List Int) : eqB xs xs = true := by simp [eqB]
theorem eq_of_gi {xs ys : List Int} (hl : xs.length = ys.length) (h : ∀ j, j < xs.length → gi xs j = gi ys j) : xs = ys := by
  apply List.ext_getElem hl
  intro j h1 h2
  have := h j h1
  rwa [gi_eq h1, gi_eq h2] at this
/-- The numbers from k on. -/
def marks (k : Int) (n : Nat) : List Int := (List.range n).map fun (i : Nat) => k + (i : Int)
theorem marks_len (k : Int) (n : Nat) : (marks k n).length = n := by simp [marks]
theorem gi_marks {k : Int} {n j : Nat} (h : j < n) : gi (marks k n) j = k + j := by rw [gi_eq (by rw [marks_len]; exact h)]; simp [marks]
theorem gi_set (xs : List Int) (k : Nat) (u : Int) (j : Nat) (hk : k < xs.length) : gi (xs.set k u) j = if j = k then u else gi xs j := by
  simp only [gi, List.getD, List.getElem?_set]
  by_cases e : k = j
  · subst e; simp [hk]
  · rw [if_neg e, if_neg (fun h => e h.symm)]

def Vld (xs : List Int) : Prop := 1 ≤ xs.length ∧ xs.length ≤ 12 ∧ (∀ j, j < xs.length → 0 ≤ gi xs j ∧ gi xs j < xs.length) ∧ ∀ j, j < xs.length → ∀ i, i < j → gi xs i ≠ gi xs j
instance (xs : List Int) : Decidable (Vld xs) := by unfold Vld; infer_instance
def vld (xs : List Int) : Bool := decide (Vld xs)
theorem vld_true {xs : List Int} (h : Vld xs) : vld xs = true := by simp [vld, h]
theorem vld_false {xs : List Int} (h : ¬ Vld xs) : vld xs = false := by simp [vld, h]
theorem Vld_of {xs : List Int} (h : vld xs = true) : Vld xs := by simpa [vld] using h

def inB (x lo hi : Int) : Bool := decide (lo ≤ x ∧ x ≤ hi)
theorem inB_true {x lo hi : Int} (h : lo ≤ x) (h' : x ≤ hi) : inB x lo hi = true := by simp [inB, h, h']
theorem inB_false {x lo hi : Int} (h : ¬ (lo ≤ x ∧ x ≤ hi)) : inB x lo hi = false := by simp only [inB, decide_eq_false_iff_not]; exact h

/-! ### Permutations -/

/-- Numbers below n, no two equal, n of them: each is there. -/
theorem pigeon : ∀ (n : Nat) (f : Nat → Nat), (∀ i, i < n → f i < n) → (∀ j, j < n → ∀ i, i < j → f i ≠ f j) → ∀ v, v < n → ∃ i, i < n ∧ f i = v := by
  intro n
  induction n with
  | zero => intro f _ _ v hv; omega
  | succ n ih =>
    intro f hf hi v hv
    have hg := ih (fun i => if f i = n then f n else f i)
      (fun i h => by
        have h1 := hf i (by omega)
        have h2 := hi n (by omega) i h
        have h3 := hf n (by omega)
        split <;> omega)
      (fun j h i hij => by
        have h1 := hi j (by omega) i hij
        have h2 := hi n (by omega) i (by omega)
        have h3 := hi n (by omega) j h
        split <;> split <;> omega)
    by_cases e : v = f n
    · exact ⟨n, by omega, e.symm⟩
    · have hfn := hf n (by omega)
      by_cases e' : v = n
      · obtain ⟨i, h, he⟩ := hg (f n) (by omega)
        refine ⟨i, by omega, ?_⟩
        have h2 := hi n (by omega) i h
        split at he <;> omega
      · obtain ⟨i, h, he⟩ := hg v (by omega)
        refine ⟨i, by omega, ?_⟩
        split at he <;> omega

/-- Element j as an index. -/
def gn (xs : List Int) (j : Nat) : Nat := (gi xs j).toNat
theorem Vld.gn_lt {p : List Int} (h : Vld p) {j : Nat} (hj : j < p.length) : gn p j < p.length := by have := h.2.2.1 j hj; unfold gn; omega
theorem Vld.gi_gn {p : List Int} (h : Vld p) {j : Nat} (hj : j < p.length) : gi p j = (gn p j : Int) := by have := h.2.2.1 j hj; unfold gn; omega
theorem Vld.inj {p : List Int} (h : Vld p) {i j : Nat} (hi : i < p.length) (hj : j < p.length) (e : gn p i = gn p j) : i = j := by
  have e' : gi p i = gi p j := by rw [h.gi_gn hi, h.gi_gn hj, e]
  rcases Nat.lt_trichotomy i j with hlt | rfl | hlt
  · exact absurd e' (h.2.2.2 j hj i hlt)
  · rfl
  · exact absurd e'.symm (h.2.2.2 i hi j hlt)
theorem Vld.surj {p : List Int} (h : Vld p) {v : Nat} (hv : v < p.length) : ∃ i, i < p.length ∧ gn p i = v :=
  pigeon p.length (gn p) (fun _ hi => h.gn_lt hi) (fun j hj i hij e => by have := h.inj (by omega) hj e; omega) v hv
/-- Two lists that agree wherever a permutation leads are equal. -/
theorem Vld.ext {p xs ys : List Int} (h : Vld p) (hx : xs.length = p.length) (hy : ys.length = p.length) (he : ∀ i, i < p.length → gi xs (gn p i) = gi ys (gn p i)) : xs = ys :=
  eq_of_gi (by rw [hx, hy]) fun v hv => by
    obtain ⟨i, hi, rfl⟩ := h.surj (v := v) (by omega)
    exact he i hi

/-- Tabulated. -/
def tab (n : Nat) (f : Nat → Int) : List Int := (List.range n).map f
theorem tab_len (n : Nat) (f : Nat → Int) : (tab n f).length = n := by simp [tab]
theorem gi_tab {n : Nat} {f : Nat → Int} {j : Nat} (h : j < n) : gi (tab n f) j = f j := by rw [gi_eq (by rw [tab_len]; exact h)]; simp [tab]
theorem tab_ext {n : Nat} {f : Nat → Int} {xs : List Int} (hl : xs.length = n) (h : ∀ j, j < n → gi xs j = f j) : xs = tab n f :=
  eq_of_gi (by rw [hl, tab_len]) fun j hj => by rw [gi_tab (by omega)]; exact h j (by omega)

def mulL (a b : List Int) : List Int := tab a.length fun i => gi b (gn a i)
theorem mulL_len (a b : List Int) : (mulL a b).length = a.length := tab_len _ _
theorem gi_mulL {a b : List Int} {i : Nat} (h : i < a.length) : gi (mulL a b) i = gi b (gn a i) := gi_tab h

/-- The index at which v stands, 0 where there is none. -/
def idx (p : List Int) (v : Nat) : Nat := ((List.range p.length).find? fun j => gi p j == (v : Int)).getD 0
theorem Vld.idx_gn {p : List Int} (h : Vld p) {i : Nat} (hi : i < p.length) : idx p (gn p i) = i := by
  unfold idx
  cases hf : (List.range p.length).find? fun j => gi p j == ((gn p i : Nat) : Int) with
  | none =>
    rw [List.find?_eq_none] at hf
    exact absurd (by simpa using h.gi_gn hi) (hf i (by simpa using hi))
  | some j =>
    have h1 := List.find?_some hf
    have h2 := List.mem_of_find?_eq_some hf
    simp only [List.mem_range] at h2
    have h3 : gi p j = ((gn p i : Nat) : Int) := by simpa using h1
    rw [h.gi_gn h2] at h3
    exact h.inj h2 hi (Int.ofNat.inj h3)
def backL (p : List Int) : List Int := tab p.length fun v => (idx p v : Int)
theorem backL_len (p : List Int) : (backL p).length = p.length := tab_len _ _
theorem Vld.gi_backL {p : List Int} (h : Vld p) {i : Nat} (hi : i < p.length) : gi (backL p) (gn p i) = (i : Int) := by
  rw [backL, gi_tab (h.gn_lt hi), h.idx_gn hi]
theorem Vld.backL_eq {p ys : List Int} (h : Vld p) (hl : ys.length = p.length) (he : ∀ i, i < p.length → gi ys (gn p i) = (i : Int)) : ys = backL p :=
  h.ext hl (backL_len p) fun i hi => by rw [he i hi, h.gi_backL hi]

theorem Vld.gn_backL {p : List Int} (h : Vld p) {i : Nat} (hi : i < p.length) : gn (backL p) (gn p i) = i := by unfold gn; have := h.gi_backL hi; unfold gn at this; rw [this]; omega

def conjL (p by_ : List Int) : List Int := mulL (mulL (backL by_) p) by_
theorem conjL_len (p b : List Int) : (conjL p b).length = b.length := by simp only [conjL, mulL_len, backL_len]
theorem gn_of {xs : List Int} {j k : Nat} (h : gi xs j = (k : Int)) : gn xs j = k := by unfold gn; rw [h]; omega
theorem conjL_at {p b : List Int} (hb : Vld b) {i : Nat} (hi : i < b.length) : gi (conjL p b) (gn b i) = gi b (gn p i) := by
  have h1 : gn b i < b.length := hb.gn_lt hi
  have h2 : gi (mulL (backL b) p) (gn b i) = gi p i := by rw [gi_mulL (by rw [backL_len]; exact h1), hb.gn_backL hi]
  rw [conjL, gi_mulL (by rw [mulL_len, backL_len]; exact h1)]
  congr 1
  unfold gn; rw [show (gi b i).toNat = gn b i from rfl, h2]
theorem conjL_eq {p b ys : List Int} (hb : Vld b) (hl : ys.length = b.length) (he : ∀ i, i < b.length → gi ys (gn b i) = gi b (gn p i)) : ys = conjL p b :=
  hb.ext hl (conjL_len p b) fun i hi => by rw [he i hi, conjL_at hb hi]

/-! ### What the functions of chapter 1 answer -/
def both (a b : List Int) : Bool := vld a && vld b && decide (a.length = b.length)
theorem both_iff {a b : List Int} : both a b = true ↔ Vld a ∧ Vld b ∧ a.length = b.length := by simp [both, vld, and_assoc]
def mulR (a b : List Int) : Bool × List Int := if both a b = true then (true, mulL a b) else (false, [])
def backR (p : List Int) : Bool × List Int := if vld p = true then (true, backL p) else (false, [])
def conjR (a b : List Int) : Bool × List Int := if both a b = true then (true, conjL a b) else (false, [])
theorem mulR_len {a b ys : List Int} {ok : Bool} (h : mulR a b = (ok, ys)) : ys.length ≤ 12 := by
  unfold mulR at h
  split at h
  · rename_i hb
    injection h with _ h; rw [← h, mulL_len]; exact (both_iff.1 hb).1.2.1
  · injection h with _ h; rw [← h]; simp
theorem backR_len {p ys : List Int} {ok : Bool} (h : backR p = (ok, ys)) : ys.length ≤ 12 := by
  unfold backR at h
  split at h
  · rename_i hb
    injection h with _ h; rw [← h, backL_len]; exact (Vld_of hb).2.1
  · injection h with _ h; rw [← h]; simp
theorem conjR_len {a b ys : List Int} {ok : Bool} (h : conjR a b = (ok, ys)) : ys.length ≤ 12 := by
  unfold conjR at h
  split at h
  · rename_i hb
    injection h with _ h; rw [← h, conjL_len]; exact (both_iff.1 hb).2.1.2.1
  · injection h with _ h; rw [← h]; simp

end Go.Proofs.Ytjpebcomecoheaa
