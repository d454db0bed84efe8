/-
  Plain lists of ints: elements, permutations as lists, what is done with them. No program in sight.
  Plain: the cycles of a permutation, found by going along it and marking points.
  Plain: permutations as functions on the numbers below n; the parity of the pairs that are turned and of the points that are the least of their cycles. No program in sight.
-/
namespace Go.Proofs.Ytcenffndclpjoaa

/-- Element j of a list of ints, 0 beyond its end. Plain: the walk does not look into it. -/
def gi (xs : List Int) (j : Nat) : Int := xs.getD j 0
theorem gi_eq {xs : List Int} {j : Nat} (h : j < xs.length) : gi xs j = xs[j] := by simp [gi, List.getD, h]

/-- Lists of ints are equal: a name that the walk does not open. -/
def eqB (xs ys : List Int) : Bool := decide (xs = ys)
theorem eqB_true {xs ys : List Int} (h : xs = ys) : eqB xs ys = true := by simp [eqB, h]
theorem eqB_refl (xs : List Int) : eqB xs xs = true := by simp [eqB]
theorem eq_of_gi {xs ys : List Int} (hl : xs.length = ys.length) (h : ∀ j, j < xs.length → gi xs j = gi ys j) : xs = ys := by
  apply List.ext_getElem hl
  intro j h1 h2
  have := h j h1
  rwa [gi_eq h1, gi_eq h2] at this
/-- The numbers from k on. -/
def marks (k : Int) (n : Nat) : List Int := (List.range n).map fun (i : Nat) => k + (i : Int)
theorem marks_len (k : Int) (n : Nat) : (marks k n).length = n := by simp [marks]
theorem gi_marks {k : Int} {n j : Nat} (h : j < n) : gi (marks k n) j = k + j := by rw [gi_eq (by rw [marks_len]; exact h)]; simp [marks]
theorem gi_set (xs : List Int) (k : Nat) (u : Int) (j : Nat) (hk : k < xs.length) : gi (xs.set k u) j = if j = k then u else gi xs j := by
  simp only [gi, List.getD, List.getElem?_set]
  by_cases e : k = j
  · subst e; simp [hk]
  · rw [if_neg e, if_neg (fun h => e h.symm)]

def Vld (xs : List Int) : Prop := 1 ≤ xs.length ∧ xs.length ≤ 12 ∧ (∀ j, j < xs.length → 0 ≤ gi xs j ∧ gi xs j < xs.length) ∧ ∀ j, j < xs.length → ∀ i, i < j → gi xs i ≠ gi xs j
instance (xs : List Int) : Decidable (Vld xs) := by unfold Vld; infer_instance
def vld (xs : List Int) : Bool := decide (Vld xs)
theorem vld_true {xs : List Int} (h : Vld xs) : vld xs = true := by simp [vld, h]
theorem vld_false {xs : List Int} (h : ¬ Vld xs) : vld xs = false := by simp [vld, h]
theorem Vld_of {xs : List Int} (h : vld xs = true) : Vld xs := by simpa [vld] using h

def inB (x lo hi : Int) : Bool := decide (lo ≤ x ∧ x ≤ hi)
theorem inB_true {x lo hi : Int} (h : lo ≤ x) (h' : x ≤ hi) : inB x lo hi = true := by simp [inB, h, h']
theorem inB_false {x lo hi : Int} (h : ¬ (lo ≤ x ∧ x ≤ hi)) : inB x lo hi = false := by simp only [inB, decide_eq_false_iff_not]; exact h

/-! ### Permutations -/

/-- Numbers below n, no two equal, n of them: each is there. -/
theorem pigeon : ∀ (n : Nat) (f : Nat → Nat), (∀ i, i < n → f i < n) → (∀ j, j < n → ∀ i, i < j → f i ≠ f j) → ∀ v, v < n → ∃ i, i < n ∧ f i = v := by
  intro n
  induction n with
  | zero => intro f _ _ v hv; omega
  | succ n ih =>
    intro f hf hi v hv
    have hg := ih (fun i => if f i = n then f n else f i)
      (fun i h => by
        have h1 := hf i (by omega)
        have h2 := hi n (by omega) i h
        have h3 := hf n (by omega)
        split <;> omega)
      (fun j h i hij => by
        have h1 := hi j (by omega) i hij
        have h2 := hi n (by omega) i (by omega)
        have h3 := hi n (by omega) j h
        split <;> split <;> omega)
    by_cases e : v = f n
    · exact ⟨n, by omega, e.symm⟩
    · have hfn := hf n (by omega)
      by_cases e' : v = n
      · obtain ⟨i, h, he⟩ := hg (f n) (by omega)
        refine ⟨i, by omega, ?_⟩
        have h2 := hi n (by omega) i h
        split at he <;> omega
      · obtain ⟨i, h, he⟩ := hg v (by omega)
        refine ⟨i, by omega, ?_⟩
        split at he <;> omega

/-- Element j as an index. -/
def gn (xs : List Int) (j : Nat) : Nat := (gi xs j).toNat
theorem Vld.gn_lt {p : List Int} (h : Vld p) {j : Nat} (hj : j < p.length) : gn p j < p.length := by have := h.2.2.1 j hj; unfold gn; omega
theorem Vld.gi_gn {p : List Int} (h : Vld p) {j : Nat} (hj : j < p.length) : gi p j = (gn p j : Int) := by have := h.2.2.1 j hj; unfold gn; omega
theorem Vld.inj {p : List Int} (h : Vld p) {i j : Nat} (hi : i < p.length) (hj : j < p.length) (e : gn p i = gn p j) : i = j := by
  have e' : gi p i = gi p j := by rw [h.gi_gn hi, h.gi_gn hj, e]
  rcases Nat.lt_trichotomy i j with hlt | rfl | hlt
  · exact absurd e' (h.2.2.2 j hj i hlt)
  · rfl
  · exact absurd e'.symm (h.2.2.2 i hi j hlt)
theorem Vld.surj {p : List Int} (h : Vld p) {v : Nat} (hv : v < p.length) : ∃ i, i < p.length ∧ gn p i = v :=
  pigeon p.length (gn p) (fun _ hi => h.gn_lt hi) (fun j hj i hij e => by have := h.inj (by omega) hj e; omega) v hv
/-- Two lists that agree wherever a permutation leads are equal. -/
theorem Vld.ext {p xs ys : List Int} (h : Vld p) (hx : xs.length = p.length) (hy : ys.length = p.length) (he : ∀ i, i < p.length → gi xs (gn p i) = gi ys (gn p i)) : xs = ys :=
  eq_of_gi (by rw [hx, hy]) fun v hv => by
    obtain ⟨i, hi, rfl⟩ := h.surj (v := v) (by omega)
    exact he i hi

/-- Tabulated. -/
def tab (n : Nat) (f : Nat → Int) : List Int := (List.range n).map f
theorem tab_len (n : Nat) (f : Nat → Int) : (tab n f).length = n := by simp [tab]
theorem gi_tab {n : Nat} {f : Nat → Int} {j : Nat} (h : j < n) : gi (tab n f) j = f j := by rw [gi_eq (by rw [tab_len]; exact h)]; simp [tab]
theorem tab_ext {n : Nat} {f : Nat → Int} {xs : List Int} (hl : xs.length = n) (h : ∀ j, j < n → gi xs j = f j) : xs = tab n f :=
  eq_of_gi (by rw [hl, tab_len]) fun j hj => by rw [gi_tab (by omega)]; exact h j (by omega)

def mulL (a b : List Int) : List Int := tab a.length fun i => gi b (gn a i)
theorem mulL_len (a b : List Int) : (mulL a b).length = a.length := tab_len _ _
theorem gi_mulL {a b : List Int} {i : Nat} (h : i < a.length) : gi (mulL a b) i = gi b (gn a i) := gi_tab h

/-- The index at which v stands, 0 where there is none. -/
def idx (p : List Int) (v : Nat) : Nat := ((List.range p.length).find? fun j => gi p j == (v : Int)).getD 0
theorem Vld.idx_gn {p : List Int} (h : Vld p) {i : Nat} (hi : i < p.length) : idx p (gn p i) = i := by
  unfold idx
  cases hf : (List.range p.length).find? fun j => gi p j == ((gn p i : Nat) : Int) with
  | none =>
    rw [List.find?_eq_none] at hf
    exact absurd (by simpa using h.gi_gn hi) (hf i (by simpa using hi))
  | some j =>
    have h1 := List.find?_some hf
    have h2 := List.mem_of_find?_eq_some hf
    simp only [List.mem_range] at h2
    have h3 : gi p j = ((gn p i : Nat) : Int) := by simpa using h1
    rw [h.gi_gn h2] at h3
    exact h.inj h2 hi (Int.ofNat.inj h3)
def backL (p : List Int) : List Int := tab p.length fun v => (idx p v : Int)
theorem backL_len (p : List Int) : (backL p).length = p.length := tab_len _ _
theorem Vld.gi_backL {p : List Int} (h : Vld p) {i : Nat} (hi : i < p.length) : gi (backL p) (gn p i) = (i : Int) := by
  rw [backL, gi_tab (h.gn_lt hi), h.idx_gn hi]
theorem Vld.backL_eq {p ys : List Int} (h : Vld p) (hl : ys.length = p.length) (he : ∀ i, i < p.length → gi ys (gn p i) = (i : Int)) : ys = backL p :=
  h.ext hl (backL_len p) fun i hi => by rw [he i hi, h.gi_backL hi]

theorem Vld.gn_backL {p : List Int} (h : Vld p) {i : Nat} (hi : i < p.length) : gn (backL p) (gn p i) = i := by unfold gn; have := h.gi_backL hi; unfold gn at this; rw [this]; omega

def conjL (p by_ : List Int) : List Int := mulL (mulL (backL by_) p) by_
theorem conjL_len (p b : List Int) : (conjL p b).length = b.length := by simp only [conjL, mulL_len, backL_len]
theorem gn_of {xs : List Int} {j k : Nat} (h : gi xs j = (k : Int)) : gn xs j = k := by unfold gn; rw [h]; omega
theorem conjL_at {p b : List Int} (hb : Vld b) {i : Nat} (hi : i < b.length) : gi (conjL p b) (gn b i) = gi b (gn p i) := by
  have h1 : gn b i < b.length := hb.gn_lt hi
  have h2 : gi (mulL (backL b) p) (gn b i) = gi p i := by rw [gi_mulL (by rw [backL_len]; exact h1), hb.gn_backL hi]
  rw [conjL, gi_mulL (by rw [mulL_len, backL_len]; exact h1)]
  congr 1
  unfold gn; rw [show (gi b i).toNat = gn b i from rfl, h2]
theorem conjL_eq {p b ys : List Int} (hb : Vld b) (hl : ys.length = b.length) (he : ∀ i, i < b.length → gi ys (gn b i) = gi b (gn p i)) : ys = conjL p b :=
  hb.ext hl (conjL_len p b) fun i hi => by rw [he i hi, conjL_at hb hi]

/-! ### What the functions of chapter 1 answer -/
def both (a b : List Int) : Bool := vld a && vld b && decide (a.length = b.length)
theorem both_iff {a b : List Int} : both a b = true ↔ Vld a ∧ Vld b ∧ a.length = b.length := by simp [both, vld, and_assoc]
def mulR (a b : List Int) : Bool × List Int := if both a b = true then (true, mulL a b) else (false, [])
def backR (p : List Int) : Bool × List Int := if vld p = true then (true, backL p) else (false, [])
def conjR (a b : List Int) : Bool × List Int := if both a b = true then (true, conjL a b) else (false, [])
theorem mulR_len {a b ys : List Int} {ok : Bool} (h : mulR a b = (ok, ys)) : ys.length ≤ 12 := by
  unfold mulR at h
  split at h
  · rename_i hb
    injection h with _ h; rw [← h, mulL_len]; exact (both_iff.1 hb).1.2.1
  · injection h with _ h; rw [← h]; simp
theorem backR_len {p ys : List Int} {ok : Bool} (h : backR p = (ok, ys)) : ys.length ≤ 12 := by
  unfold backR at h
  split at h
  · rename_i hb
    injection h with _ h; rw [← h, backL_len]; exact (Vld_of hb).2.1
  · injection h with _ h; rw [← h]; simp
theorem conjR_len {a b ys : List Int} {ok : Bool} (h : conjR a b = (ok, ys)) : ys.length ≤ 12 := by
  unfold conjR at h
  split at h
  · rename_i hb
    injection h with _ h; rw [← h, conjL_len]; exact (both_iff.1 hb).2.1.2.1
  · injection h with _ h; rw [← h]; simp

end Go.Proofs.Ytcenffndclpjoaa

namespace Go.Proofs.Ytcenffndclpjoaa

theorem nodup_len : ∀ (n : Nat) (l : List Nat), l.Nodup → (∀ j, j ∈ l → j < n) → l.length ≤ n := by
  intro n
  induction n with
  | zero =>
    intro l _ h
    cases l with
    | nil => simp
    | cons a l => exact absurd (h a (by simp)) (by omega)
  | succ n ih =>
    intro l hn h
    have h1 := ih (l.erase n) (hn.erase n) (fun j hj => by
      have h2 := (hn.mem_erase_iff).1 hj
      have := h j h2.2
      have := h2.1
      omega)
    have h2 : l.length ≤ (l.erase n).length + 1 := by rw [List.length_erase]; split <;> omega
    omega

/-- From k on along p, up to the first point that is marked. -/
def cycFrom (p : List Int) : Nat → List Nat → Nat → List Int
  | 0, _, _ => []
  | f + 1, vis, k => if k ∈ vis then [] else (k : Int) :: cycFrom p f (k :: vis) (gn p k)

def after (c : List Int) (vis : List Nat) : List Nat := (c.map Int.toNat).reverse ++ vis
theorem after_nil (vis : List Nat) : after [] vis = vis := rfl
theorem after_snoc (c : List Int) (k : Nat) (vis : List Nat) : after (c ++ [(k : Int)]) vis = k :: after c vis := by simp [after]

/-- All cycles that begin at one of the points is. -/
def cycAll (p : List Int) : List Nat → List Nat → List (List Int)
  | [], _ => []
  | i :: is, vis => if i ∈ vis then cycAll p is vis else cycFrom p 13 vis i :: cycAll p is (after (cycFrom p 13 vis i) vis)
def cyclesL (p : List Int) : List (List Int) := cycAll p (List.range' 0 p.length) []

/-- The inner loop: what has been gathered, what is marked, where it stands. -/
structure Inner (p : List Int) (n : Nat) (vis0 : List Nat) (i : Nat) (acc : List Int) (vis : List Nat) (k : Nat) : Prop where
  eq : ∃ f, cycFrom p 13 vis0 i = acc ++ cycFrom p f vis k ∧ 13 ≤ f + vis.length
  vis_eq : vis = after acc vis0
  nodup : vis.Nodup
  lt : ∀ j, j ∈ vis → j < n
  klt : k < n

theorem Inner.start {p : List Int} {n i : Nat} {vis0 : List Nat} (hn : vis0.Nodup) (hl : ∀ j, j ∈ vis0 → j < n) (hi : i < n) : Inner p n vis0 i [] vis0 i :=
  ⟨⟨13, rfl, by omega⟩, rfl, hn, hl, hi⟩
theorem Inner.step {p : List Int} {n i k : Nat} {vis0 vis : List Nat} {acc : List Int} (h : Inner p n vis0 i acc vis k) (hp : Vld p) (hpn : p.length = n) (hk : k ∉ vis) :
    Inner p n vis0 i (acc ++ [(k : Int)]) (k :: vis) (gn p k) := by
  obtain ⟨⟨f, he, hf⟩, hv, hnd, hlt, hkn⟩ := h
  have hlen := nodup_len n vis hnd hlt
  have h12 : n ≤ 12 := by rw [← hpn]; exact hp.2.1
  cases f with
  | zero => omega
  | succ f =>
    have hcf : cycFrom p (f + 1) vis k = (k : Int) :: cycFrom p f (k :: vis) (gn p k) := by rw [cycFrom, if_neg hk]
    rw [hcf] at he
    refine ⟨⟨f, by rw [he, List.append_assoc]; rfl, by simp; omega⟩, by rw [after_snoc, hv], List.nodup_cons.2 ⟨hk, hnd⟩, fun j hj => ?_, by rw [← hpn]; exact hp.gn_lt (by omega)⟩
    rcases List.mem_cons.1 hj with rfl | hj
    · exact hkn
    · exact hlt j hj
theorem Inner.done {p : List Int} {n i k : Nat} {vis0 vis : List Nat} {acc : List Int} (h : Inner p n vis0 i acc vis k) (h12 : n ≤ 12) (hk : k ∈ vis) : cycFrom p 13 vis0 i = acc := by
  obtain ⟨⟨f, he, hf⟩, hv, hnd, hlt, hkn⟩ := h
  have hlen := nodup_len n vis hnd hlt
  cases f with
  | zero => omega
  | succ f =>
    have hcf : cycFrom p (f + 1) vis k = [] := by rw [cycFrom, if_pos hk]
    rw [he, hcf, List.append_nil]
theorem Inner.len {p : List Int} {n i k : Nat} {vis0 vis : List Nat} {acc : List Int} (h : Inner p n vis0 i acc vis k) : acc.length ≤ n := by
  have := nodup_len n vis h.nodup h.lt
  rw [h.vis_eq] at this
  simp [after] at this
  omega

/-- The outer loop: what has been found, what is marked, where it stands. -/
structure Outer (p : List Int) (n : Nat) (out : List (List Int)) (vis : List Nat) (i : Nat) : Prop where
  eq : cyclesL p = out ++ cycAll p (List.range' i (n - i)) vis
  nodup : vis.Nodup
  lt : ∀ j, j ∈ vis → j < n
  le : i ≤ n
  few : out.length ≤ i
theorem Outer.start {p : List Int} {n : Nat} (hn : p.length = n) : Outer p n [] [] 0 :=
  ⟨by simp [cyclesL, hn], List.nodup_nil, fun j hj => (by cases hj), Nat.zero_le _, Nat.le_refl _⟩
theorem Outer.skip {p : List Int} {n i : Nat} {out : List (List Int)} {vis : List Nat} (h : Outer p n out vis i) (hi : i < n) (hv : i ∈ vis) : Outer p n out vis (i + 1) := by
  obtain ⟨he, hnd, hlt, hle, hf⟩ := h
  refine ⟨?_, hnd, hlt, by omega, by omega⟩
  rw [he, show n - i = (n - (i + 1)) + 1 from by omega, List.range'_succ, cycAll, if_pos hv]
theorem Outer.take {p : List Int} {n i k : Nat} {out : List (List Int)} {vis vis' : List Nat} {acc : List Int} (h : Outer p n out vis i) (hi : i < n) (h12 : n ≤ 12) (hv : i ∉ vis) (hin : Inner p n vis i acc vis' k) (hk : k ∈ vis') :
    Outer p n (out ++ [acc]) vis' (i + 1) := by
  obtain ⟨he, hnd, hlt, hle, hf⟩ := h
  have hc := hin.done h12 hk
  refine ⟨?_, hin.nodup, hin.lt, by omega, by simp; omega⟩
  rw [he, show n - i = (n - (i + 1)) + 1 from by omega, List.range'_succ, cycAll, if_neg hv, hc, hin.vis_eq, List.append_assoc]
  rfl
theorem Outer.done {p : List Int} {n : Nat} {out : List (List Int)} {vis : List Nat} (h : Outer p n out vis n) : cyclesL p = out := by
  rw [h.eq, Nat.sub_self]; simp [cycAll]

end Go.Proofs.Ytcenffndclpjoaa

namespace Go.Proofs.Ytcenffndclpjoaa

/-! ### Sums and counts over the numbers below n -/
def sm : Nat → (Nat → Nat) → Nat
  | 0, _ => 0
  | n + 1, F => sm n F + F n
theorem sm_congr {F G : Nat → Nat} : ∀ n, (∀ i, i < n → F i = G i) → sm n F = sm n G
  | 0, _ => rfl
  | n + 1, h => by rw [sm, sm, sm_congr n (fun i hi => h i (by omega)), h n (by omega)]
theorem sm_add (F G : Nat → Nat) : ∀ n, sm n (fun i => F i + G i) = sm n F + sm n G
  | 0 => rfl
  | n + 1 => by rw [sm, sm, sm, sm_add F G n]; omega
theorem sm_zero : ∀ n, sm n (fun _ => 0) = 0
  | 0 => rfl
  | n + 1 => by rw [sm, sm_zero n]
theorem sm_const (c : Nat) : ∀ n, sm n (fun _ => c) = n * c
  | 0 => by simp [sm]
  | n + 1 => by rw [sm, sm_const c n, Nat.succ_mul]
/-- Sums that differ at one place. -/
theorem sm_but {F G : Nat → Nat} {i0 : Nat} : ∀ m, i0 < m → (∀ k, k < m → k ≠ i0 → F k = G k) → sm m F + G i0 = sm m G + F i0
  | 0, h, _ => absurd h (by omega)
  | m + 1, h, hk => by
    rw [sm, sm]
    by_cases e : i0 = m
    · subst e
      rw [sm_congr i0 (fun k hk' => hk k (by omega) (by omega))]; omega
    · have := sm_but m (by omega) (fun k hk' hne => hk k (by omega) hne)
      have := hk m (by omega) (fun e' => e e'.symm)
      omega
theorem sm_le {F G : Nat → Nat} : ∀ n, (∀ i, i < n → F i ≤ G i) → sm n F ≤ sm n G
  | 0, _ => Nat.le_refl _
  | n + 1, h => by have := sm_le n (fun i hi => h i (by omega)); have := h n (by omega); rw [sm, sm]; omega
theorem sm_one {F : Nat → Nat} {i0 : Nat} (n : Nat) (h : i0 < n) (hz : ∀ k, k < n → k ≠ i0 → F k = 0) : sm n F = F i0 := by
  have := sm_but (F := F) (G := fun _ => 0) n h hz
  rw [sm_zero] at this
  omega

/-- 1 where it holds. -/
noncomputable def ch (P : Prop) : Nat := open Classical in if P then 1 else 0
theorem ch_true {P : Prop} (h : P) : ch P = 1 := by simp [ch, h]
theorem ch_false {P : Prop} (h : ¬ P) : ch P = 0 := by simp [ch, h]
theorem ch_congr {P Q : Prop} (h : P ↔ Q) : ch P = ch Q := by rw [propext h]
theorem ch_le (P : Prop) : ch P ≤ 1 := by by_cases h : P <;> simp [ch, h]

/-! ### Permutations as functions -/
structure Prm (n : Nat) (f : Nat → Nat) : Prop where
  lt : ∀ i, i < n → f i < n
  inj : ∀ i j, i < n → j < n → f i = f j → i = j
theorem Prm.surj {n : Nat} {f : Nat → Nat} (h : Prm n f) {v : Nat} (hv : v < n) : ∃ i, i < n ∧ f i = v :=
  pigeon n f h.lt (fun j hj i hij e => by have := h.inj i j (by omega) hj e; omega) v hv
theorem Prm.fix {n : Nat} {f : Nat → Nat} (h : Prm (n + 1) f) (e : f n = n) : Prm n f :=
  ⟨fun i hi => by
    have := h.lt i (by omega)
    have : f i ≠ n := fun e' => by have := h.inj i n (by omega) (by omega) (e'.trans e.symm); omega
    omega, fun i j hi hj => h.inj i j (by omega) (by omega)⟩
/-- The last point taken out. -/
def less (f : Nat → Nat) (n i0 : Nat) : Nat → Nat := fun i => if i = i0 then f n else f i
theorem less_at (f : Nat → Nat) (n i0 : Nat) : less f n i0 i0 = f n := by simp [less]
theorem less_ne {f : Nat → Nat} {n i0 i : Nat} (h : i ≠ i0) : less f n i0 i = f i := by simp [less, h]
theorem Prm.less {n : Nat} {f : Nat → Nat} (h : Prm (n + 1) f) {i0 : Nat} (hi : i0 < n) (e : f i0 = n) (hn : f n ≠ n) : Prm n (less f n i0) := by
  have h0 := h.lt n (by omega)
  constructor
  · intro i hi'
    by_cases e' : i = i0
    · rw [e', less_at]; omega
    · rw [less_ne e']
      have := h.lt i (by omega)
      have : f i ≠ n := fun e'' => e' (h.inj i i0 (by omega) (by omega) (e''.trans e.symm))
      omega
  · intro i j hi' hj' he
    by_cases e1 : i = i0 <;> by_cases e2 : j = i0
    · omega
    · rw [e1, less_at, less_ne e2] at he
      have := h.inj n j (by omega) (by omega) he; omega
    · rw [e2, less_at, less_ne e1] at he
      have := h.inj i n (by omega) (by omega) he; omega
    · rw [less_ne e1, less_ne e2] at he
      exact h.inj i j (by omega) (by omega) he
/-- One goes down by one point: it stays where it is, or it lies between two others. -/
theorem Prm.down {C : Nat → (Nat → Nat) → Prop} (h0 : ∀ f, C 0 f) (hf : ∀ n f, Prm (n + 1) f → f n = n → C n f → C (n + 1) f)
    (hl : ∀ n f i0, Prm (n + 1) f → i0 < n → f i0 = n → f n < n → C n (Go.Proofs.Ytcenffndclpjoaa.less f n i0) → C (n + 1) f) : ∀ n f, Prm n f → C n f := by
  intro n
  induction n with
  | zero => intro f _; exact h0 f
  | succ n ih =>
    intro f h
    by_cases e : f n = n
    · exact hf n f h e (ih f (h.fix e))
    · obtain ⟨i0, hi, he⟩ := h.surj (v := n) (by omega)
      have hi0 : i0 ≠ n := fun e' => e (by rw [e'] at he; exact he)
      have := h.lt n (by omega)
      exact hl n f i0 h (by omega) he (by omega) (ih _ (h.less (by omega) he e))

/-- Sums may be taken in any order. -/
theorem sm_prm (F : Nat → Nat) : ∀ n f, Prm n f → sm n (fun i => F (f i)) = sm n F := by
  apply Prm.down (C := fun n f => sm n (fun i => F (f i)) = sm n F)
  · intro f; rfl
  · intro n f _ e ih
    rw [sm, sm, ih, e]
  · intro n f i0 h hi he hn ih
    rw [sm, sm, ← ih]
    have := sm_but (F := fun i => F (f i)) (G := fun i => F (Go.Proofs.Ytcenffndclpjoaa.less f n i0 i)) n hi (fun k hk hne => by rw [less_ne hne])
    simp only [less_at, he] at this
    omega

/-! ### Pairs that are turned -/
noncomputable def invs (f : Nat → Nat) (n : Nat) : Nat := sm n fun i => sm i fun k => ch (f i < f k)
theorem invs_succ (f : Nat → Nat) (n : Nat) : invs f (n + 1) = invs f n + sm n fun k => ch (f n < f k) := rfl

/-- As long as the place of n has not come, nothing differs; afterwards as much as twice something and one. -/
theorem invs_less {n : Nat} {f : Nat → Nat} {i0 : Nat} (h : Prm (n + 1) f) (hi : i0 < n) (he : f i0 = n) (hn : f n < n) :
    ∀ m, m ≤ n → (m ≤ i0 → invs f m = invs (Go.Proofs.Ytcenffndclpjoaa.less f n i0) m) ∧ (i0 < m → ∃ b, invs f m + sm m (fun k => ch (f n < f k)) = invs (Go.Proofs.Ytcenffndclpjoaa.less f n i0) m + 2 * b + 1) := by
  intro m
  induction m with
  | zero => intro _; exact ⟨fun _ => rfl, fun h => absurd h (by omega)⟩
  | succ m ih =>
    intro hm
    obtain ⟨ih1, ih2⟩ := ih (by omega)
    refine ⟨fun hmi => ?_, fun hmi => ?_⟩
    · rw [invs_succ, invs_succ, ih1 (by omega), less_ne (by omega : m ≠ i0)]
      congr 1
      exact sm_congr m (fun k hk => by rw [less_ne (by omega : k ≠ i0)])
    · by_cases e : i0 = m
      · subst e
        refine ⟨0, ?_⟩
        rw [invs_succ, invs_succ, ih1 (Nat.le_refl _), less_at, he, sm]
        have e1 : sm i0 (fun k => ch (n < f k)) = 0 := by
          rw [sm_congr i0 (G := fun _ => 0) (fun k hk => ch_false (by have := h.lt k (by omega); omega)), sm_zero]
        have e2 : sm i0 (fun k => ch (f n < Go.Proofs.Ytcenffndclpjoaa.less f n i0 k)) = sm i0 (fun k => ch (f n < f k)) := sm_congr i0 (fun k hk => by rw [less_ne (by omega : k ≠ i0)])
        have e3 : ch (f n < f i0) = 1 := ch_true (by omega)
        rw [he] at e3
        rw [e1, e2, he, e3]; omega
      · obtain ⟨b, hb⟩ := ih2 (by omega)
        have hne : f m ≠ f n := fun e' => by have := h.inj m n (by omega) (by omega) e'; omega
        have hmn : f m ≠ n := fun e' => by have := h.inj m i0 (by omega) (by omega) (e'.trans he.symm); omega
        have hlt := h.lt m (by omega)
        have hs := sm_but (F := fun k => ch (f m < f k)) (G := fun k => ch (f m < Go.Proofs.Ytcenffndclpjoaa.less f n i0 k)) m (i0 := i0) (by omega) (fun k hk hk' => by rw [less_ne hk'])
        simp only [less_at, he] at hs
        have e3 : ch (f m < n) = 1 := ch_true (by omega)
        rw [e3] at hs
        rw [invs_succ, invs_succ, sm, less_ne (fun e' => e e'.symm : m ≠ i0)]
        by_cases hlt' : f m < f n
        · have e4 : ch (f m < f n) = 1 := ch_true hlt'
          have e5 : ch (f n < f m) = 0 := ch_false (by omega)
          rw [e4] at hs; rw [e5]
          exact ⟨b, by omega⟩
        · have e4 : ch (f m < f n) = 0 := ch_false hlt'
          have e5 : ch (f n < f m) = 1 := ch_true (by omega)
          rw [e4] at hs; rw [e5]
          exact ⟨b + 1, by omega⟩

/-! ### Points that are the least of their cycles -/
def itf (f : Nat → Nat) : Nat → Nat → Nat
  | 0, x => x
  | k + 1, x => f (itf f k x)
noncomputable def lows (n : Nat) (f : Nat → Nat) : Nat := sm n fun i => ch (∀ k, i ≤ itf f k i)
theorem less_to {n : Nat} {f : Nat → Nat} {i0 x : Nat} (h : Prm (n + 1) f) (hi : i0 < n) (he : f i0 = n) (hn : f n < n) (hx : x < n) : ∀ k,
    (itf f k x < n ∧ ∃ q, itf (Go.Proofs.Ytcenffndclpjoaa.less f n i0) q x = itf f k x) ∨ (itf f k x = n ∧ ∃ q, itf (Go.Proofs.Ytcenffndclpjoaa.less f n i0) q x = i0) := by
  intro k
  induction k with
  | zero => exact .inl ⟨hx, 0, rfl⟩
  | succ k ih =>
    rcases ih with ⟨hl, q, hq⟩ | ⟨hl, q, hq⟩
    · by_cases e : itf f k x = i0
      · exact .inr ⟨by rw [itf, e, he], q, by rw [hq, e]⟩
      · have hlt := h.lt (itf f k x) (by omega)
        have hne : f (itf f k x) ≠ n := fun e' => e (h.inj _ i0 (by omega) (by omega) (e'.trans he.symm))
        exact .inl ⟨by rw [itf]; omega, q + 1, by rw [itf, itf, hq, less_ne e]⟩
    · exact .inl ⟨by rw [itf, hl]; exact hn, q + 1, by rw [itf, itf, hq, less_at, hl]⟩
theorem less_from {n : Nat} {f : Nat → Nat} {i0 x : Nat} (he : f i0 = n) : ∀ k, ∃ q, itf f q x = itf (Go.Proofs.Ytcenffndclpjoaa.less f n i0) k x := by
  intro k
  induction k with
  | zero => exact ⟨0, rfl⟩
  | succ k ih =>
    obtain ⟨q, hq⟩ := ih
    by_cases e : itf (Go.Proofs.Ytcenffndclpjoaa.less f n i0) k x = i0
    · exact ⟨q + 2, by rw [itf, itf, itf, hq, e, less_at, he]⟩
    · exact ⟨q + 1, by rw [itf, itf, hq, less_ne e]⟩
theorem lows_less {n : Nat} {f : Nat → Nat} {i0 : Nat} (h : Prm (n + 1) f) (hi : i0 < n) (he : f i0 = n) (hn : f n < n) : lows (n + 1) f = lows n (Go.Proofs.Ytcenffndclpjoaa.less f n i0) := by
  unfold lows
  rw [sm, ch_false (fun hall => by have := hall 1; simp only [itf] at this; omega), Nat.add_zero]
  refine sm_congr n fun i hi' => ch_congr ⟨fun hall k => ?_, fun hall k => ?_⟩
  · obtain ⟨q, hq⟩ := less_from (x := i) he k
    rw [← hq]; exact hall q
  · rcases less_to h hi he hn hi' k with ⟨_, q, hq⟩ | ⟨e, _⟩
    · rw [← hq]; exact hall q
    · omega
/-- As many points, less as many cycles, as pairs that are turned, but for an even number. -/
theorem parity_invs : ∀ n f, Prm n f → (n + lows n f + invs f n) % 2 = 0 := by
  apply Prm.down (C := fun n f => (n + lows n f + invs f n) % 2 = 0)
  · intro f; rfl
  · intro n f h e ih
    have hit : ∀ k, itf f k n = n := fun k => by
      induction k with
      | zero => rfl
      | succ k ih => rw [itf, ih, e]
    have e1 : lows (n + 1) f = lows n f + 1 := by
      unfold lows
      rw [sm, ch_true (fun k => by rw [hit k]; exact Nat.le_refl _)]
    have e2 : invs f (n + 1) = invs f n := by
      rw [invs_succ, sm_congr n (G := fun _ => 0) (fun k hk => ch_false (by have := h.lt k (by omega); omega)), sm_zero]; rfl
    rw [e1, e2]; omega
  · intro n f i0 h hi he hn ih
    rw [lows_less h hi he hn, invs_succ]
    obtain ⟨b, hb⟩ := (invs_less h hi he hn n (Nat.le_refl _)).2 hi
    omega

/-! ### Products -/
/-- Pairs, each once: half of all, where none is a pair with itself. -/
theorem sm_pairs {t : Nat → Nat → Nat} (hs : ∀ x y, t x y = t y x) (hd : ∀ x, t x x = 0) : ∀ n, sm n (fun i => sm n fun k => t i k) = 2 * sm n (fun i => sm i fun k => t i k)
  | 0 => rfl
  | n + 1 => by
    rw [sm, sm, sm, hd, sm_congr n (F := fun i => sm (n + 1) fun k => t i k) (G := fun i => (sm n fun k => t i k) + t i n) (fun i _ => rfl), sm_add, sm_pairs hs hd n, sm_congr n (F := fun i => t i n) (G := fun k => t n k) (fun i _ => hs i n)]
    omega
theorem sm_pairs_prm {t : Nat → Nat → Nat} (hs : ∀ x y, t x y = t y x) (hd : ∀ x, t x x = 0) {n : Nat} {f : Nat → Nat} (h : Prm n f) :
    sm n (fun i => sm i fun k => t (f i) (f k)) = sm n (fun i => sm i fun k => t i k) := by
  have h1 := sm_pairs (t := fun x y => t (f x) (f y)) (fun x y => hs _ _) (fun x => hd _) n
  have h2 := sm_pairs hs hd n
  have h3 : sm n (fun i => sm n fun k => t (f i) (f k)) = sm n (fun i => sm n fun k => t i k) := by
    rw [sm_congr n (G := fun i => (fun x => sm n fun k => t x k) (f i)) (fun i hi => sm_prm (fun y => t (f i) y) n f h)]
    exact sm_prm (fun x => sm n fun k => t x k) n f h
  omega
theorem sm_mod {F G : Nat → Nat} : ∀ n, (∀ i, i < n → F i % 2 = G i % 2) → sm n F % 2 = sm n G % 2
  | 0, _ => rfl
  | n + 1, h => by
    have := sm_mod n (fun i hi => h i (by omega))
    have := h n (by omega)
    rw [sm, sm]; omega
/-- 1 where a pair, in whatever order it is given, is turned by g. -/
noncomputable def trn (g : Nat → Nat) (x y : Nat) : Nat := ch (x < y ∧ g y < g x) + ch (y < x ∧ g x < g y)
theorem invs_mul {n : Nat} {f g : Nat → Nat} (h : Prm n f) (hg : Prm n g) : invs (fun i => g (f i)) n % 2 = (invs f n + invs g n) % 2 := by
  have hp := sm_pairs_prm (t := trn g) (fun x y => by unfold trn; omega) (fun x => by unfold trn; rw [ch_false (fun h => by omega)]) h
  have h1 : invs g n = sm n (fun i => sm i fun k => trn g i k) := by
    unfold invs
    refine sm_congr n fun i hi => sm_congr i fun k hk => ?_
    unfold trn
    rw [ch_false (P := i < k ∧ g k < g i) (fun h => by omega), Nat.zero_add]
    exact ch_congr ⟨fun h => ⟨hk, h⟩, fun h => h.2⟩
  rw [h1, ← hp]
  unfold invs
  rw [← sm_add]
  refine sm_mod n fun i hi => ?_
  rw [← sm_add]
  refine sm_mod i fun k hk => ?_
  have n1 : f i ≠ f k := fun e => by have := h.inj i k hi (by omega) e; omega
  have n2 : g (f i) ≠ g (f k) := fun e => n1 (hg.inj _ _ (h.lt i hi) (h.lt k (by omega)) e)
  unfold trn
  by_cases hlt : f i < f k
  · rw [ch_true hlt, ch_false (P := f k < f i ∧ g (f i) < g (f k)) (fun h => by omega)]
    by_cases hgl : g (f i) < g (f k)
    · rw [ch_true hgl, ch_false (fun h => by omega)]
    · rw [ch_false hgl, ch_true ⟨hlt, by omega⟩]
  · rw [ch_false hlt, ch_false (P := f i < f k ∧ g (f k) < g (f i)) (fun h => by omega)]
    by_cases hgl : g (f i) < g (f k)
    · rw [ch_true hgl, ch_true ⟨by omega, hgl⟩]
    · rw [ch_false hgl, ch_false (fun h => by omega)]

end Go.Proofs.Ytcenffndclpjoaa
