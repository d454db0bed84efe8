/-
  Plain: what the cycles of a permutation are: each goes round, each point is in one of them.
  Plain: the type of a permutation: the lengths of its cycles, the greatest first, as they are counted and as they are sorted.
  Plain: the order of a permutation is the least common multiple of its cycles' lengths.
  Plain: the least point from which two permutations lead to a point; found by relaxing, and by going on from each point in turn.
  Plain: when two lists are a map.
  Plain: a map renamed is a map.
  Plain: the new names of a form, given in the order in which darts are met.
  Plain: sums over the cycles of a permutation are sums over its points; how many cycles of each length, what becomes of them when the permutation is renamed or turned back.
-/
import Derived.Test.YtcenffndclpjoaaPlain
import Derived.Test.YtcenffndclpjoaaMul
import Derived.Deep.LoopGhost
namespace Go.Proofs.Ytcenffndclpjoaa

theorem mem_after {c : List Int} {vis : List Nat} {x : Nat} : x ∈ after c vis ↔ (∃ j, j < c.length ∧ gn c j = x) ∨ x ∈ vis := by
  simp only [after, List.mem_append, List.mem_reverse, List.mem_map]
  constructor
  · rintro (⟨a, ha, rfl⟩ | h)
    · obtain ⟨j, hj, rfl⟩ := List.getElem_of_mem ha
      exact .inl ⟨j, hj, by simp [gn, gi_eq hj]⟩
    · exact .inr h
  · rintro (⟨j, hj, rfl⟩ | h)
    · exact .inl ⟨c[j], List.getElem_mem hj, by simp [gn, gi_eq hj]⟩
    · exact .inr h
theorem nodup_after {c : List Int} {vis : List Nat} (h : (after c vis).Nodup) : (∀ i j, i < j → j < c.length → gn c i ≠ gn c j) ∧ ∀ j, j < c.length → gn c j ∉ vis := by
  rw [after, List.nodup_append] at h
  obtain ⟨h1, _, h3⟩ := h
  constructor
  · intro i j hij hj
    have h4 := List.pairwise_iff_getElem.1 (List.pairwise_reverse.1 h1) i j (by simp; omega) (by simpa using hj) hij
    simp only [List.getElem_map] at h4
    simp only [gn, gi_eq hj, gi_eq (show i < c.length by omega)]
    exact fun e => h4 e.symm
  · intro j hj hv
    exact h3 (gn c j) (by simp only [List.mem_reverse, List.mem_map]; exact ⟨c[j], List.getElem_mem hj, by simp [gn, gi_eq hj]⟩) _ hv rfl

theorem gi_append_left {a b : List Int} {j : Nat} (h : j < a.length) : gi (a ++ b) j = gi a j := by simp [gi, List.getD, List.getElem?_append_left h]
theorem gi_append_last {a : List Int} {x : Int} : gi (a ++ [x]) a.length = x := by simp [gi, List.getD]
theorem gn_append_left {a b : List Int} {j : Nat} (h : j < a.length) : gn (a ++ b) j = gn a j := by unfold gn; rw [gi_append_left h]
theorem gn_append_last {a : List Int} {k : Nat} : gn (a ++ [(k : Int)]) a.length = k := by unfold gn; rw [gi_append_last]; omega

/-- One cycle, found from i on where vis was marked. -/
structure Found (p : List Int) (vis : List Nat) (i : Nat) (c : List Int) : Prop where
  pos : 0 < c.length
  head : gn c 0 = i
  nat : ∀ j, j < c.length → gi c j = (gn c j : Int)
  chain : ∀ j, j + 1 < c.length → gn p (gn c j) = gn c (j + 1)
  close : gn p (gn c (c.length - 1)) = i
  nodup : (after c vis).Nodup
  lt : ∀ j, j ∈ after c vis → j < p.length

def Closed (p : List Int) (vis : List Nat) : Prop := ∀ k, k ∈ vis → ∃ k', k' ∈ vis ∧ gn p k' = k

structure Going (p : List Int) (vis : List Nat) (i : Nat) (acc : List Int) (k : Nat) : Prop where
  nat : ∀ j, j < acc.length → gi acc j = (gn acc j : Int)
  chain : ∀ j, j + 1 < acc.length → gn p (gn acc j) = gn acc (j + 1)
  start : acc.length = 0 → k = i
  next : 0 < acc.length → gn p (gn acc (acc.length - 1)) = k ∧ gn acc 0 = i
  nodup : (after acc vis).Nodup
  lt : ∀ j, j ∈ after acc vis → j < p.length
  klt : k < p.length

theorem going_found {p : List Int} {vis : List Nat} {i : Nat} (hp : Vld p) (hc : Closed p vis) (hi : i ∉ vis) : ∀ (f : Nat) (acc : List Int) (k : Nat), 13 ≤ f + (after acc vis).length → Going p vis i acc k →
    Found p vis i (acc ++ cycFrom p f (after acc vis) k) := by
  intro f
  induction f with
  | zero =>
    intro acc k hf hg
    have := nodup_len p.length _ hg.nodup hg.lt
    have := hp.2.1
    omega
  | succ f ih =>
    intro acc k hf hg
    by_cases hk : k ∈ after acc vis
    · have e : cycFrom p (f + 1) (after acc vis) k = [] := by rw [cycFrom, if_pos hk]
      rw [e, List.append_nil]
      have hpos : 0 < acc.length := by
        rcases Nat.eq_zero_or_pos acc.length with h0 | h0
        · have h1 := hg.start h0
          have h2 : acc = [] := List.eq_nil_of_length_eq_zero h0
          rw [h2, after_nil, h1] at hk
          exact absurd hk hi
        · exact h0
      obtain ⟨hn1, hn2⟩ := hg.next hpos
      obtain ⟨hd1, hd2⟩ := nodup_after hg.nodup
      have hlast : gn acc (acc.length - 1) < p.length := hg.lt _ (mem_after.2 (.inl ⟨_, by omega, rfl⟩))
      have hki : k = i := by
        rcases mem_after.1 hk with ⟨j, hj, hjk⟩ | hv
        · rcases Nat.eq_zero_or_pos j with h0 | h0
          · subst h0; rw [← hjk]; exact hn2
          · have h1 := hg.chain (j - 1) (by omega)
            rw [show j - 1 + 1 = j from by omega, hjk, ← hn1] at h1
            have h2 := hp.inj (hg.lt _ (mem_after.2 (.inl ⟨j - 1, by omega, rfl⟩))) hlast h1
            exact absurd h2 (hd1 (j - 1) (acc.length - 1) (by omega) (by omega))
        · obtain ⟨k', hk', he⟩ := hc k hv
          have h2 := hp.inj (hg.lt _ (mem_after.2 (.inr hk'))) hlast (he.trans hn1.symm)
          rw [h2] at hk'
          exact absurd hk' (hd2 _ (by omega))
      exact ⟨hpos, hn2, hg.nat, hg.chain, hn1.trans hki, hg.nodup, hg.lt⟩
    · have e : cycFrom p (f + 1) (after acc vis) k = (k : Int) :: cycFrom p f (k :: after acc vis) (gn p k) := by rw [cycFrom, if_neg hk]
      have ha := after_snoc acc k vis
      rw [e, ← ha, show acc ++ (k : Int) :: cycFrom p f (after (acc ++ [(k : Int)]) vis) (gn p k) = (acc ++ [(k : Int)]) ++ cycFrom p f (after (acc ++ [(k : Int)]) vis) (gn p k) from by simp]
      refine ih _ _ (by rw [ha]; simp only [List.length_cons]; omega) ⟨fun j hj => ?_, fun j hj => ?_, fun h => by simp at h, fun _ => ⟨?_, ?_⟩, ?_, fun j hj => ?_, hp.gn_lt hg.klt⟩
      · simp only [List.length_append, List.length_cons, List.length_nil] at hj
        by_cases h : j < acc.length
        · rw [gi_append_left h, gn_append_left h]; exact hg.nat j h
        · have : j = acc.length := by omega
          subst this
          rw [gi_append_last, gn_append_last]
      · simp only [List.length_append, List.length_cons, List.length_nil] at hj
        by_cases h : j + 1 < acc.length
        · rw [gn_append_left h, gn_append_left (by omega)]; exact hg.chain j h
        · have : acc.length = j + 1 := by omega
          rw [gn_append_left (by omega), ← this, gn_append_last]
          have := (hg.next (by omega)).1
          rw [show acc.length - 1 = j from by omega] at this
          exact this
      · simp only [List.length_append, List.length_cons, List.length_nil, Nat.add_sub_cancel]
        rw [gn_append_last]
      · rcases Nat.eq_zero_or_pos acc.length with h0 | h0
        · have h1 := hg.start h0
          have h2 : acc = [] := List.eq_nil_of_length_eq_zero h0
          subst h2
          rw [h1]; simp [gn, gi]
        · rw [gn_append_left h0]; exact (hg.next h0).2
      · rw [ha]; exact List.nodup_cons.2 ⟨hk, hg.nodup⟩
      · rw [ha] at hj
        rcases List.mem_cons.1 hj with rfl | hj
        · exact hg.klt
        · exact hg.lt j hj

theorem cycFrom_found {p : List Int} {vis : List Nat} {i : Nat} (hp : Vld p) (hn : vis.Nodup) (hl : ∀ j, j ∈ vis → j < p.length) (hc : Closed p vis) (hi : i ∉ vis) (hip : i < p.length) : Found p vis i (cycFrom p 13 vis i) := by
  have := going_found hp hc hi 13 [] i (by omega) ⟨fun j hj => absurd hj (by simp), fun j hj => absurd hj (by simp), fun _ => rfl, fun h => absurd h (by simp), hn, hl, hip⟩
  rwa [after_nil, List.nil_append] at this
theorem Found.closed {p : List Int} {vis : List Nat} {i : Nat} {c : List Int} (h : Found p vis i c) (hc : Closed p vis) : Closed p (after c vis) := by
  intro k hk
  rcases mem_after.1 hk with ⟨j, hj, rfl⟩ | hv
  · rcases Nat.eq_zero_or_pos j with h0 | h0
    · subst h0
      exact ⟨gn c (c.length - 1), mem_after.2 (.inl ⟨_, by omega, rfl⟩), by rw [h.head]; exact h.close⟩
    · exact ⟨gn c (j - 1), mem_after.2 (.inl ⟨_, by omega, rfl⟩), by have := h.chain (j - 1) (by omega); rw [show j - 1 + 1 = j from by omega] at this; exact this⟩
  · obtain ⟨k', h1, h2⟩ := hc k hv
    exact ⟨k', mem_after.2 (.inr h1), h2⟩

/-- A cycle. -/
structure Cyc (p : List Int) (c : List Int) : Prop where
  pos : 0 < c.length
  nat : ∀ j, j < c.length → gi c j = (gn c j : Int)
  lt : ∀ j, j < c.length → gn c j < p.length
  round : ∀ j, j < c.length → gn p (gn c j) = gn c ((j + 1) % c.length)
  apart : ∀ i j, i < j → j < c.length → gn c i ≠ gn c j
theorem Found.cyc {p : List Int} {vis : List Nat} {i : Nat} {c : List Int} (h : Found p vis i c) : Cyc p c :=
  ⟨h.pos, h.nat, fun j hj => h.lt _ (mem_after.2 (.inl ⟨j, hj, rfl⟩)), fun j hj => by
    by_cases e : j + 1 < c.length
    · rw [Nat.mod_eq_of_lt e]; exact h.chain j e
    · have e1 : j + 1 = c.length := by omega
      rw [e1, Nat.mod_self, h.head]
      have := h.close
      rw [show c.length - 1 = j from by omega] at this
      exact this, (nodup_after h.nodup).1⟩

def inC (c : List Int) (x : Nat) : Prop := ∃ j, j < c.length ∧ gn c j = x
theorem cycAll_spec {p : List Int} (hp : Vld p) : ∀ (is : List Nat) (vis : List Nat), vis.Nodup → (∀ j, j ∈ vis → j < p.length) → Closed p vis → (∀ i, i ∈ is → i < p.length) →
    (∀ c, c ∈ cycAll p is vis → Cyc p c ∧ ∀ x, inC c x → x ∉ vis) ∧ (∀ i, i ∈ is → i ∈ vis ∨ ∃ c, c ∈ cycAll p is vis ∧ inC c i) ∧ (cycAll p is vis).Pairwise (fun c d => ∀ x, inC c x → ¬ inC d x) := by
  intro is
  induction is with
  | nil => intro vis _ _ _ _; simp [cycAll]
  | cons i is ih =>
    intro vis hn hl hc hi
    rw [cycAll]
    by_cases hv : i ∈ vis
    · rw [if_pos hv]
      obtain ⟨h1, h2, h3⟩ := ih vis hn hl hc (fun j hj => hi j (List.mem_cons_of_mem _ hj))
      refine ⟨h1, fun j hj => ?_, h3⟩
      rcases List.mem_cons.1 hj with rfl | hj
      · exact .inl hv
      · exact h2 j hj
    · rw [if_neg hv]
      have hf := cycFrom_found hp hn hl hc hv (hi i (by simp))
      obtain ⟨h1, h2, h3⟩ := ih (after (cycFrom p 13 vis i) vis) hf.nodup hf.lt (hf.closed hc) (fun j hj => hi j (List.mem_cons_of_mem _ hj))
      refine ⟨fun c hcm => ?_, fun j hj => ?_, List.pairwise_cons.2 ⟨fun d hd x hx hx' => ?_, h3⟩⟩
      · rcases List.mem_cons.1 hcm with rfl | hcm
        · exact ⟨hf.cyc, fun x ⟨j, hj, hx⟩ => by rw [← hx]; exact (nodup_after hf.nodup).2 j hj⟩
        · exact ⟨(h1 c hcm).1, fun x hx hxv => (h1 c hcm).2 x hx (mem_after.2 (.inr hxv))⟩
      · rcases List.mem_cons.1 hj with rfl | hj
        · exact .inr ⟨_, List.mem_cons_self, 0, hf.pos, hf.head⟩
        · rcases h2 j hj with h | ⟨c, hcm, hx⟩
          · rcases mem_after.1 h with ⟨q, hq, e⟩ | h
            · exact .inr ⟨_, List.mem_cons_self, q, hq, e⟩
            · exact .inl h
          · exact .inr ⟨c, List.mem_cons_of_mem _ hcm, hx⟩
      · obtain ⟨j, hj, e⟩ := hx
        exact (h1 d hd).2 x hx' (mem_after.2 (.inl ⟨j, hj, e⟩))
theorem cyclesL_spec {p : List Int} (hp : Vld p) : (∀ c, c ∈ cyclesL p → Cyc p c) ∧ (∀ i, i < p.length → ∃ c, c ∈ cyclesL p ∧ inC c i) ∧ (cyclesL p).Pairwise (fun c d => ∀ x, inC c x → ¬ inC d x) := by
  obtain ⟨h1, h2, h3⟩ := cycAll_spec hp (List.range' 0 p.length) [] List.nodup_nil (fun j hj => by cases hj) (fun k hk => by cases hk) (fun i hi => by
    rw [List.mem_range'] at hi
    obtain ⟨q, hq, rfl⟩ := hi
    omega)
  refine ⟨fun c hc => (h1 c hc).1, fun i hi => ?_, h3⟩
  rcases h2 i (by rw [List.mem_range']; exact ⟨i, hi, by omega⟩) with h | h
  · cases h
  · exact h

/-! ### Going along p k times -/
def it (p : List Int) : Nat → Nat → Nat
  | 0, x => x
  | k + 1, x => gn p (it p k x)
theorem it_lt {p : List Int} (hp : Vld p) : ∀ (k : Nat) {x : Nat}, x < p.length → it p k x < p.length := by
  intro k
  induction k with
  | zero => intro x hx; exact hx
  | succ k ih => intro x hx; exact hp.gn_lt (ih hx)
theorem Cyc.it {p c : List Int} (h : Cyc p c) : ∀ (k : Nat) {j : Nat}, j < c.length → it p k (gn c j) = gn c ((j + k) % c.length) := by
  intro k
  induction k with
  | zero => intro j hj; rw [Nat.add_zero, Nat.mod_eq_of_lt hj]; rfl
  | succ k ih =>
    intro j hj
    rw [Go.Proofs.Ytcenffndclpjoaa.it, ih hj, h.round _ (Nat.mod_lt _ h.pos)]
    congr 1
    rw [Nat.mod_add_mod, Nat.add_assoc]
theorem Cyc.back {p c : List Int} (hp : Vld p) (h : Cyc p c) {j : Nat} (hj : j < c.length) : gn (backL p) (gn c ((j + 1) % c.length)) = gn c j := by
  rw [← h.round j hj]
  exact hp.gn_backL (h.lt j hj)
theorem backL_vld {p : List Int} (h : Vld p) : Vld (backL p) := by
  have hl := backL_len p
  refine ⟨by rw [hl]; exact h.1, by rw [hl]; exact h.2.1, fun j hj => ?_, fun j hj i hij e => ?_⟩
  · rw [hl] at hj ⊢
    obtain ⟨i, hi, rfl⟩ := h.surj hj
    rw [h.gi_backL hi]
    exact ⟨Int.natCast_nonneg _, by omega⟩
  · rw [hl] at hj
    obtain ⟨a, ha, rfl⟩ := h.surj hj
    obtain ⟨b, hb, rfl⟩ := h.surj (show i < p.length by omega)
    rw [h.gi_backL ha, h.gi_backL hb] at e
    have : a = b := by omega
    subst this
    omega
theorem Cyc.itBack {p c : List Int} (hp : Vld p) (h : Cyc p c) : ∀ (k : Nat) {j : Nat}, j < c.length → Go.Proofs.Ytcenffndclpjoaa.it (backL p) k (gn c ((j + k) % c.length)) = gn c j := by
  intro k
  induction k with
  | zero => intro j hj; rw [Nat.add_zero, Nat.mod_eq_of_lt hj]; rfl
  | succ k ih =>
    intro j hj
    have h1 := ih (j := (j + 1) % c.length) (Nat.mod_lt _ h.pos)
    rw [Nat.mod_add_mod, show j + 1 + k = j + (k + 1) from by omega] at h1
    rw [Go.Proofs.Ytcenffndclpjoaa.it, h1, h.back hp hj]

/-- The power: k steps along p, or -k steps back. -/
def powAt (p : List Int) (k : Int) (x : Nat) : Nat := if k < 0 then it (backL p) (-k).toNat x else it p k.toNat x
def powL (p : List Int) (k : Int) : List Int := tab p.length fun x => (powAt p k x : Int)
theorem powL_len (p : List Int) (k : Int) : (powL p k).length = p.length := tab_len _ _
/-- The step that the program takes along a cycle of n points. -/
def stepOf (k n : Int) : Int := (k.tmod n + n).tmod n
theorem stepOf_eq {k n : Int} (hn : 0 < n) : stepOf k n = k % n := by
  unfold stepOf
  have h1 : 0 ≤ k.tmod n + n := by have := Int.tmod_lt_of_pos k hn; have := Int.lt_tmod_of_pos k hn; omega
  rw [Int.tmod_eq_emod_of_nonneg h1]
  rw [Int.add_emod_right]
  have h2 := Int.tmod_add_mul_tdiv k n
  conv => rhs; rw [← h2]
  rw [Int.add_mul_emod_self_left]
theorem Cyc.pow {p c : List Int} (hp : Vld p) (h : Cyc p c) (k : Int) {j : Nat} (hj : j < c.length) : powAt p k (gn c j) = gn c ((j + (stepOf k c.length).toNat) % c.length) := by
  have hL : (0 : Int) < c.length := by have := h.pos; omega
  rw [stepOf_eq hL]
  unfold powAt
  split
  · rename_i hk
    -- the place q from which -k steps forward lead to j
    obtain ⟨q, hq⟩ : ∃ q : Nat, q = (j + (k % (c.length : Int)).toNat) % c.length := ⟨_, rfl⟩
    have hq1 : q < c.length := by rw [hq]; exact Nat.mod_lt _ h.pos
    have h1 := h.itBack hp (-k).toNat (j := q) hq1
    have h2 : (q + (-k).toNat) % c.length = j := by
      have e : (((q + (-k).toNat) % c.length : Nat) : Int) = (j : Int) := by
        rw [hq]
        have h3 : (0 : Int) ≤ k % (c.length : Int) := Int.emod_nonneg _ (by omega)
        rw [Int.natCast_emod, Int.natCast_add, Int.natCast_emod, Int.natCast_add, Int.toNat_of_nonneg h3, Int.toNat_of_nonneg (by omega), Int.emod_add_emod]
        have h4 : (j : Int) + k % (c.length : Int) + -k = (j : Int) + (c.length : Int) * (-(k / (c.length : Int))) := by
          have := Int.emod_add_mul_ediv k (c.length : Int)
          rw [Int.mul_neg]
          omega
        rw [h4, Int.add_mul_emod_self_left]
        exact Int.emod_eq_of_lt (by omega) (by omega)
      omega
    rw [h2] at h1
    rw [h1, hq]
  · rename_i hk
    rw [h.it k.toNat hj]
    congr 1
    have e : (((j + k.toNat) % c.length : Nat) : Int) = (((j + (k % (c.length : Int)).toNat) % c.length : Nat) : Int) := by
      have h3 : (0 : Int) ≤ k % (c.length : Int) := Int.emod_nonneg _ (by omega)
      rw [Int.natCast_emod, Int.natCast_add, Int.natCast_emod, Int.natCast_add, Int.toNat_of_nonneg h3, Int.toNat_of_nonneg (by omega), Int.add_emod_emod]
    exact Int.ofNat.inj e
/-- What the model multiplies together. -/
def iterL (p : List Int) (k : Nat) : List Int := tab p.length fun x => (it p k x : Int)
theorem iterL_len (p : List Int) (k : Nat) : (iterL p k).length = p.length := tab_len _ _
theorem iterL_succ {p : List Int} (hp : Vld p) (k : Nat) : mulL (iterL p k) p = iterL p (k + 1) := by
  refine tab_ext (by rw [mulL_len, iterL_len]) fun j hj => ?_
  have e : gn (iterL p k) j = it p k j := gn_of (gi_tab hj)
  rw [gi_mulL (by rw [iterL_len]; exact hj), e, hp.gi_gn (it_lt hp k hj)]
  rfl
theorem iterL_into {p : List Int} (hp : Vld p) (k : Nat) {n : Nat} (hn : p.length = n) : Into (iterL p k) n := fun j hj => by
  rw [iterL_len] at hj
  rw [iterL, gi_tab hj]
  have := it_lt hp k hj
  omega
theorem powL_nonneg {p : List Int} {k : Int} (hk : 0 ≤ k) : powL p k = iterL p k.toNat := by
  unfold powL iterL
  congr 1
  funext x
  rw [powAt, if_neg (by omega)]
theorem powL_neg {p : List Int} {k : Int} (hk : k < 0) : powL p k = iterL (backL p) (-k).toNat := by
  unfold powL iterL
  rw [backL_len]
  congr 1
  funext x
  rw [powAt, if_pos hk]
def powR (p : List Int) (k : Int) : Bool × List Int := if vld p = true ∧ -1000 ≤ k ∧ k ≤ 1000 then (true, powL p k) else (false, [])
theorem powR_len {p ys : List Int} {k : Int} {ok : Bool} (h : powR p k = (ok, ys)) : ys.length ≤ 12 := by
  unfold powR at h
  split at h
  · rename_i hb
    injection h with _ h; rw [← h, powL_len]; exact (Vld_of hb.1).2.1
  · injection h with _ h; rw [← h]; simp

theorem cycFrom_short (p : List Int) : ∀ (f : Nat) (vis : List Nat) (k : Nat), (cycFrom p f vis k).length ≤ f := by
  intro f
  induction f with
  | zero => intro vis k; simp [cycFrom]
  | succ f ih =>
    intro vis k
    rw [cycFrom]
    split
    · simp
    · simpa using ih _ _
theorem cyclesL_short {p c : List Int} (h : c ∈ cyclesL p) : c.length ≤ 13 := by
  have key : ∀ (is : List Nat) (vis : List Nat), c ∈ cycAll p is vis → c.length ≤ 13 := by
    intro is
    induction is with
    | nil => intro vis h; simp [cycAll] at h
    | cons i is ih =>
      intro vis h
      rw [cycAll] at h
      split at h
      · exact ih _ h
      · rcases List.mem_cons.1 h with rfl | h
        · exact cycFrom_short _ _ _ _
        · exact ih _ h
  exact key _ _ h
/-- The points of the cycles pre have got their images. -/
def Moved (k : Int) (zs : List Int) (pre : List (List Int)) : Prop := ∀ c, c ∈ pre → ∀ j, j < c.length → gi zs (gn c j) = gi c ((j + (stepOf k c.length).toNat) % c.length)
theorem prefix_last {pre xs : List (List Int)} {x : List Int} (h : pre ++ [x] <+: xs) (hp : xs.Pairwise (fun c d => ∀ y, inC c y → ¬ inC d y)) : x ∈ xs ∧ ∀ c, c ∈ pre → ∀ y, inC c y → ¬ inC x y := by
  obtain ⟨r, hr⟩ := h
  subst hr
  refine ⟨by simp, fun c hc y hy hx => ?_⟩
  have h1 := (List.pairwise_append.1 hp).1
  exact (List.pairwise_append.1 h1).2.2 c hc x (by simp) y hy hx
theorem moved_all {p zs : List Int} {k : Int} (hp : Vld p) (hl : zs.length = p.length) (hm : Moved k zs (cyclesL p)) : zs = powL p k := by
  obtain ⟨h1, h2, _⟩ := cyclesL_spec hp
  refine tab_ext hl fun x hx => ?_
  obtain ⟨c, hc, j, hj, rfl⟩ := h2 x hx
  have hcy := h1 c hc
  rw [hm c hc j hj, hcy.pow hp k hj, hcy.nat _ (Nat.mod_lt _ hcy.pos)]

end Go.Proofs.Ytcenffndclpjoaa

namespace Go.Proofs.Ytcenffndclpjoaa

/-- How many of the first i cycles have k points. -/
def cnt (cs : List (List Int)) (k : Nat) : Nat → Nat
  | 0 => 0
  | i + 1 => cnt cs k i + (if (cs.getD i []).length = k then 1 else 0)
/-- The lengths from k down, each as often as there are cycles of it. -/
def fromLen (cs : List (List Int)) : Nat → List Int
  | 0 => []
  | k + 1 => List.replicate (cnt cs (k + 1) cs.length) ((k : Int) + 1) ++ fromLen cs k
def typeL (p : List Int) : List Int := fromLen (cyclesL p) p.length
theorem cnt_le (cs : List (List Int)) (k i : Nat) : cnt cs k i ≤ i := by
  induction i with
  | zero => simp [cnt]
  | succ i ih => rw [cnt]; split <;> omega
theorem cnt_sum (cs : List (List Int)) : ∀ (i n : Nat), (∀ j, j < i → 1 ≤ (cs.getD j []).length ∧ (cs.getD j []).length ≤ n) → ((List.range n).map fun k => cnt cs (k + 1) i).sum = i := by
  intro i
  induction i with
  | zero =>
    intro n _
    have : ((List.range n).map fun k => cnt cs (k + 1) 0) = List.replicate n 0 := by
      apply List.ext_getElem (by simp)
      intro j h1 h2
      simp [cnt]
    rw [this]; simp
  | succ i ih =>
    intro n h
    have h1 := ih n (fun j hj => h j (by omega))
    have h2 := h i (by omega)
    have key : ∀ m, ((List.range m).map fun k => cnt cs (k + 1) (i + 1)).sum = ((List.range m).map fun k => cnt cs (k + 1) i).sum + (if (cs.getD i []).length ≤ m then 1 else 0) := by
      intro m
      induction m with
      | zero => rw [if_neg (by omega)]; simp
      | succ m ihm =>
        rw [List.range_succ, List.map_append, List.map_append, List.sum_append, List.sum_append, ihm]
        simp only [List.map_cons, List.map_nil, List.sum_cons, List.sum_nil, cnt]
        by_cases e : (cs.getD i []).length = m + 1
        · rw [if_pos e, if_neg (by omega), if_pos (by omega)]; omega
        · rw [if_neg e]
          by_cases e' : (cs.getD i []).length ≤ m
          · rw [if_pos e', if_pos (by omega)]; omega
          · rw [if_neg e', if_neg (by omega)]; omega
    rw [key n, h1, if_pos h2.2]
theorem fromLen_len (cs : List (List Int)) : ∀ n, (fromLen cs n).length = ((List.range n).map fun k => cnt cs (k + 1) cs.length).sum := by
  intro n
  induction n with
  | zero => simp [fromLen]
  | succ n ih => rw [fromLen, List.length_append, List.length_replicate, ih, List.range_succ, List.map_append, List.sum_append]; simp; omega
def typeR (p : List Int) : Bool × List Int := if vld p = true then (true, typeL p) else (false, [])

/-- A list that never rises. -/
def Falls (xs : List Int) : Prop := xs.Pairwise fun a b => b ≤ a
theorem fromLen_le (cs : List (List Int)) : ∀ n x, x ∈ fromLen cs n → x ≤ n := by
  intro n
  induction n with
  | zero => intro x h; simp [fromLen] at h
  | succ n ih =>
    intro x h
    rw [fromLen, List.mem_append] at h
    rcases h with h | h
    · have := (List.mem_replicate.1 h).2; omega
    · have := ih x h; omega
theorem fromLen_falls (cs : List (List Int)) : ∀ n, Falls (fromLen cs n) := by
  intro n
  induction n with
  | zero => simp [fromLen, Falls]
  | succ n ih =>
    rw [fromLen, Falls, List.pairwise_append]
    refine ⟨List.pairwise_replicate.2 (.inr (Int.le_refl _)), ih, fun a ha b hb => ?_⟩
    have := (List.mem_replicate.1 ha).2
    have := fromLen_le cs n b hb
    omega
theorem fromLen_count (cs : List (List Int)) (x : Int) : ∀ n, (fromLen cs n).count x = if 1 ≤ x ∧ x ≤ n then cnt cs x.toNat cs.length else 0 := by
  intro n
  induction n with
  | zero => rw [if_neg (by omega)]; simp [fromLen]
  | succ n ih =>
    rw [fromLen, List.count_append, ih, List.count_replicate]
    by_cases e : (n : Int) + 1 = x
    · subst e
      rw [if_pos (by simp), if_neg (by omega), if_pos (by omega)]
      simp
    · rw [if_neg (by simpa using e)]
      by_cases h : 1 ≤ x ∧ x ≤ n
      · rw [if_pos h, if_pos (by omega)]; omega
      · rw [if_neg h, if_neg (by omega)]
theorem cnt_count (cs : List (List Int)) (k : Nat) : ∀ i, i ≤ cs.length → cnt cs k i = ((cs.take i).map fun c => (c.length : Int)).count (k : Int) := by
  intro i
  induction i with
  | zero => intro _; simp [cnt]
  | succ i ih =>
    intro h
    rw [cnt, ih (by omega), List.take_succ_eq_append_getElem (by omega), List.map_append, List.count_append]
    congr 1
    have e : cs.getD i [] = cs[i] := by simp [List.getD, show i < cs.length by omega]
    rw [e]
    simp only [List.map_cons, List.map_nil, List.count_singleton]
    by_cases hk : cs[i].length = k
    · simp [hk]
    · rw [if_neg hk, if_neg (by simp; omega)]
/-- Two lists that never rise and have each number as often are equal. -/
theorem falls_eq : ∀ (xs ys : List Int), Falls xs → Falls ys → xs.Perm ys → xs = ys := by
  intro xs
  induction xs with
  | nil => intro ys _ _ h; exact (List.Perm.nil_eq h)
  | cons x xs ih =>
    intro ys hx hy h
    cases ys with
    | nil => exact absurd h.length_eq (by simp)
    | cons y ys =>
      have hxy : x = y := by
        have h1 : x ∈ y :: ys := h.subset (by simp)
        have h2 : y ∈ x :: xs := h.symm.subset (by simp)
        have a : x ≤ y := by
          rcases List.mem_cons.1 h1 with e | e
          · omega
          · exact (List.pairwise_cons.1 hy).1 x e
        have b : y ≤ x := by
          rcases List.mem_cons.1 h2 with e | e
          · omega
          · exact (List.pairwise_cons.1 hx).1 y e
        omega
      subst hxy
      rw [ih ys (List.pairwise_cons.1 hx).2 (List.pairwise_cons.1 hy).2 ((List.perm_cons x).1 h)]

end Go.Proofs.Ytcenffndclpjoaa

namespace Go.Proofs.Ytcenffndclpjoaa

def lcmL : List (List Int) → Nat
  | [] => 1
  | c :: r => Nat.lcm c.length (lcmL r)
theorem lcmL_snoc (a : List (List Int)) (c : List Int) : lcmL (a ++ [c]) = Nat.lcm (lcmL a) c.length := by
  induction a with
  | nil => simp [lcmL, Nat.lcm_comm]
  | cons x a ih => simp only [List.cons_append, lcmL, ih, Nat.lcm_assoc]
theorem lcmL_dvd {cs : List (List Int)} {m : Nat} : lcmL cs ∣ m ↔ ∀ c, c ∈ cs → c.length ∣ m := by
  induction cs with
  | nil => simp [lcmL]
  | cons c r ih =>
    rw [lcmL, Nat.lcm_dvd_iff, ih]
    simp
theorem lcmL_pos {cs : List (List Int)} (h : ∀ c, c ∈ cs → 0 < c.length) : 0 < lcmL cs := by
  induction cs with
  | nil => simp [lcmL]
  | cons c r ih =>
    rw [lcmL]
    exact Nat.lcm_pos (h c (by simp)) (ih (fun d hd => h d (by simp [hd])))
theorem lcmL_le {cs : List (List Int)} (h : ∀ c, c ∈ cs → 0 < c.length ∧ c.length ≤ 13) : lcmL cs ≤ 13 ^ cs.length := by
  induction cs with
  | nil => simp [lcmL]
  | cons c r ih =>
    rw [lcmL, List.length_cons, Nat.pow_succ, Nat.mul_comm]
    have h1 := ih (fun d hd => h d (by simp [hd]))
    have h2 := (h c (by simp)).2
    have h3 : Nat.lcm c.length (lcmL r) ≤ c.length * lcmL r := Nat.le_of_dvd (Nat.mul_pos (h c (by simp)).1 (lcmL_pos (fun d hd => (h d (by simp [hd])).1))) (Nat.lcm_dvd_mul _ _)
    exact Nat.le_trans h3 (Nat.mul_le_mul h2 h1)

theorem gn_apart {p c : List Int} (h : Cyc p c) {i j : Nat} (hi : i < c.length) (hj : j < c.length) (e : gn c i = gn c j) : i = j := by
  rcases Nat.lt_trichotomy i j with h1 | h1 | h1
  · exact absurd e (h.apart i j h1 hj)
  · exact h1
  · exact absurd e.symm (h.apart j i h1 hi)
/-- m steps lead each point back just where the order divides m. -/
theorem it_id_iff {p : List Int} (hp : Vld p) (m : Nat) : (∀ x, x < p.length → it p m x = x) ↔ lcmL (cyclesL p) ∣ m := by
  obtain ⟨h1, h2, _⟩ := cyclesL_spec hp
  rw [lcmL_dvd]
  constructor
  · intro h c hc
    have hcy := h1 c hc
    have h3 := h (gn c 0) (hcy.lt 0 hcy.pos)
    rw [hcy.it m hcy.pos, Nat.zero_add] at h3
    have h4 := gn_apart hcy (Nat.mod_lt _ hcy.pos) hcy.pos h3
    exact Nat.dvd_of_mod_eq_zero h4
  · intro h x hx
    obtain ⟨c, hc, j, hj, rfl⟩ := h2 x hx
    have hcy := h1 c hc
    rw [hcy.it m hj]
    congr 1
    obtain ⟨q, hq⟩ := h c hc
    rw [hq, Nat.add_mul_mod_self_left, Nat.mod_eq_of_lt hj]
/-- Does a list move some point? -/
def movesB (xs : List Int) : Bool := (List.range xs.length).any fun i => gi xs i != (i : Int)
theorem moves_iter {p : List Int} (hp : Vld p) (m : Nat) : movesB (iterL p m) = false ↔ lcmL (cyclesL p) ∣ m := by
  rw [← it_id_iff hp m]
  unfold movesB
  rw [iterL_len, List.any_eq_false]
  constructor
  · intro h x hx
    have := h x (by simpa using hx)
    rw [iterL, gi_tab hx] at this
    have h2 : ((it p m x : Nat) : Int) = (x : Int) := by simpa using this
    exact Int.ofNat.inj h2
  · intro h x hx
    simp only [List.mem_range] at hx
    rw [iterL, gi_tab hx, h x hx]
    simp
def ordR (p : List Int) : Int := if vld p = true then (lcmL (cyclesL p) : Int) else -1
theorem ord_pos {p : List Int} (hp : Vld p) : 0 < lcmL (cyclesL p) := lcmL_pos (fun c hc => ((cyclesL_spec hp).1 c hc).pos)
theorem ord_le {p : List Int} (hp : Vld p) (hl : (cyclesL p).length ≤ 12) : lcmL (cyclesL p) ≤ 23298085122481 := by
  refine Nat.le_trans (lcmL_le (fun c hc => ⟨((cyclesL_spec hp).1 c hc).pos, cyclesL_short hc⟩)) ?_
  refine Nat.le_trans (Nat.pow_le_pow_right (by omega) hl) ?_
  decide
end Go.Proofs.Ytcenffndclpjoaa

namespace Go.Proofs.Ytcenffndclpjoaa
open Go.RowKit

/-- Both permutations, as often as needed, lead from x to y. -/
inductive Lead (p q : List Int) : Nat → Nat → Prop
  | refl (x : Nat) : Lead p q x x
  | one {x y : Nat} (h : Lead p q x y) : Lead p q x (gn p y)
  | two {x y : Nat} (h : Lead p q x y) : Lead p q x (gn q y)

theorem it_succ' (p : List Int) : ∀ (k x : Nat), it p (k + 1) x = it p k (gn p x) := by
  intro k
  induction k with
  | zero => intro x; rfl
  | succ k ih => intro x; rw [it, ih]; rfl
theorem it_round {p : List Int} (hp : Vld p) {x : Nat} (hx : x < p.length) : ∃ k, it p k (gn p x) = x := by
  obtain ⟨h1, h2, _⟩ := cyclesL_spec hp
  obtain ⟨c, hc, j, hj, rfl⟩ := h2 x hx
  have h := h1 c hc
  refine ⟨c.length - 1, ?_⟩
  rw [← it_succ', show c.length - 1 + 1 = c.length from by have := h.pos; omega, h.it _ hj, Nat.add_mod_right, Nat.mod_eq_of_lt hj]

section
variable {p q : List Int} {x y z : Nat}
theorem Lead.trans (h : Lead p q x y) (k : Lead p q y z) : Lead p q x z := by
  induction k with
  | refl => exact h
  | one _ ih => exact .one ih
  | two _ ih => exact .two ih
theorem Lead.along1 (p q : List Int) (x : Nat) : ∀ k : Nat, Lead p q x (it p k x) := by
  intro k
  induction k with
  | zero => exact .refl _
  | succ k ih => exact .one ih
theorem Lead.along2 (p q : List Int) (x : Nat) : ∀ k : Nat, Lead p q x (it q k x) := by
  intro k
  induction k with
  | zero => exact .refl _
  | succ k ih => exact .two ih
theorem Lead.lt (hp : Vld p) (hq : Vld q) (hl : p.length = q.length) (h : Lead p q x y) (hx : x < p.length) : y < p.length := by
  induction h with
  | refl => exact hx
  | one _ ih => exact hp.gn_lt ih
  | two _ ih => rw [hl]; exact hq.gn_lt (by omega)
theorem Lead.sym (hp : Vld p) (hq : Vld q) (hl : p.length = q.length) (h : Lead p q x y) (hx : x < p.length) : Lead p q y x := by
  induction h with
  | refl => exact .refl _
  | @one y h ih =>
    obtain ⟨k, hk⟩ := it_round hp (h.lt hp hq hl hx)
    have h2 := Lead.along1 p q (gn p y) k
    rw [hk] at h2
    exact h2.trans ih
  | @two y h ih =>
    obtain ⟨k, hk⟩ := it_round hq (show y < q.length by rw [← hl]; exact h.lt hp hq hl hx)
    have h2 := Lead.along2 p q (gn q y) k
    rw [hk] at h2
    exact h2.trans ih
/-- Somewhere on the way what holds at its begin ceases to hold. -/
theorem Lead.turn {R : Nat → Prop} (h : Lead p q x y) (hx : R x) (hy : ¬ R y) : ∃ u v, Lead p q x u ∧ R u ∧ ¬ R v ∧ (v = gn p u ∨ v = gn q u) := by
  induction h with
  | refl => exact absurd hx hy
  | @one y h ih =>
    by_cases hr : R y
    · exact ⟨_, _, h, hr, hy, .inl rfl⟩
    · exact ih hr
  | @two y h ih =>
    by_cases hr : R y
    · exact ⟨_, _, h, hr, hy, .inr rfl⟩
    · exact ih hr
end

/-- The least point that leads to x. -/
noncomputable def orb (p q : List Int) (x : Nat) : Nat := leastOf fun y => Lead p q y x
section
variable {p q : List Int} {x y : Nat}
theorem orb_lead : Lead p q (orb p q x) x := (leastOf_spec (p := fun y => Lead p q y x) ⟨x, .refl _⟩).1
theorem orb_least (h : Lead p q y x) : orb p q x ≤ y := (leastOf_spec (p := fun y => Lead p q y x) ⟨x, .refl _⟩).2 y h
theorem orb_le : orb p q x ≤ x := orb_least (.refl _)
theorem orb_eq (hp : Vld p) (hq : Vld q) (hl : p.length = q.length) (h : Lead p q x y) (hx : x < p.length) : orb p q y = orb p q x :=
  Nat.le_antisymm (orb_least (orb_lead.trans h)) (orb_least (orb_lead.trans (h.sym hp hq hl hx)))
theorem orb_one (hp : Vld p) (hq : Vld q) (hl : p.length = q.length) (hx : x < p.length) : orb p q (gn p x) = orb p q x := orb_eq hp hq hl (.one (.refl _)) hx
theorem orb_two (hp : Vld p) (hq : Vld q) (hl : p.length = q.length) (hx : x < p.length) : orb p q (gn q x) = orb p q x := orb_eq hp hq hl (.two (.refl _)) hx
theorem orb_orb (hp : Vld p) (hq : Vld q) (hl : p.length = q.length) (hx : x < p.length) : orb p q (orb p q x) = orb p q x :=
  (orb_eq hp hq hl orb_lead (Nat.lt_of_le_of_lt orb_le hx)).symm
end
noncomputable def orbL (p q : List Int) : List Int := tab p.length fun x => (orb p q x : Int)
theorem orbL_len (p q : List Int) : (orbL p q).length = p.length := tab_len _ _
theorem gi_orbL {p q : List Int} {j : Nat} (h : j < p.length) : gi (orbL p q) j = (orb p q j : Int) := gi_tab h

/-! ### Relaxing -/
theorem gi_set3 {out : List Int} {v : Int} {a b c j : Nat} (ha : a < out.length) (hb : b < out.length) (hc : c < out.length) :
    gi (((out.set a v).set b v).set c v) j = if j = a ∨ j = b ∨ j = c then v else gi out j := by
  rw [gi_set _ _ _ _ (by simpa using hc), gi_set _ _ _ _ (by simpa using hb), gi_set _ _ _ _ ha]
  by_cases h1 : j = c
  · simp [h1]
  · by_cases h2 : j = b
    · simp [h2]
    · by_cases h3 : j = a
      · simp [h3]
      · simp [h1, h2, h3]

structure Relax (p q : List Int) (out0 : List Int) (i : Nat) (out : List Int) : Prop where
  len : out.length = p.length
  ge : ∀ j, j < p.length → (orb p q j : Int) ≤ gi out j
  le : ∀ j, j < p.length → gi out j ≤ gi out0 j
  did : ∀ j, j < i → gi out0 j = orb p q j → gi out (gn p j) = orb p q j ∧ gi out (gn q j) = orb p q j
theorem Relax.start {p q out0 : List Int} (hl : out0.length = p.length) (hg : ∀ j, j < p.length → (orb p q j : Int) ≤ gi out0 j) : Relax p q out0 0 out0 :=
  ⟨hl, hg, fun _ _ => Int.le_refl _, fun j hj => absurd hj (by omega)⟩
theorem Relax.step {p q out0 out : List Int} {i : Nat} {v : Int} (hp : Vld p) (hq : Vld q) (hl : p.length = q.length) (h : Relax p q out0 i out) (hi : i < p.length)
    (h1 : v ≤ gi out i) (h2 : v ≤ gi out (gn p i)) (h3 : v ≤ gi out (gn q i)) (hv : v = gi out i ∨ v = gi out (gn p i) ∨ v = gi out (gn q i)) :
    Relax p q out0 (i + 1) (((out.set i v).set (gn p i) v).set (gn q i) v) := by
  have hpi := hp.gn_lt hi
  have hqi : gn q i < p.length := by rw [hl]; exact hq.gn_lt (by omega)
  have hnew : ∀ j, gi (((out.set i v).set (gn p i) v).set (gn q i) v) j = if j = i ∨ j = gn p i ∨ j = gn q i then v else gi out j := fun j =>
    gi_set3 (by rw [h.len]; exact hi) (by rw [h.len]; exact hpi) (by rw [h.len]; exact hqi)
  have o1 := orb_one hp hq hl hi
  have o2 := orb_two hp hq hl hi
  have hov : (orb p q i : Int) ≤ v := by
    have g1 := h.ge i hi
    have g2 := h.ge _ hpi
    have g3 := h.ge _ hqi
    rw [o1] at g2
    rw [o2] at g3
    rcases hv with e | e | e <;> rw [e] <;> assumption
  have hle : ∀ j, j < p.length → gi (((out.set i v).set (gn p i) v).set (gn q i) v) j ≤ gi out j := fun j hj => by
    rw [hnew]
    split
    · rename_i e
      rcases e with rfl | rfl | rfl <;> assumption
    · exact Int.le_refl _
  have hge : ∀ j, j < p.length → (orb p q j : Int) ≤ gi (((out.set i v).set (gn p i) v).set (gn q i) v) j := fun j hj => by
    rw [hnew]
    split
    · rename_i e
      rcases e with rfl | rfl | rfl
      · exact hov
      · rw [o1]; exact hov
      · rw [o2]; exact hov
    · exact h.ge j hj
  refine ⟨by simpa using h.len, hge, fun j hj => Int.le_trans (hle j hj) (h.le j hj), fun j hj e => ?_⟩
  by_cases hji : j < i
  · obtain ⟨d1, d2⟩ := h.did j hji e
    have hj' : j < p.length := by omega
    have l1 := hp.gn_lt hj'
    have l2 : gn q j < p.length := by rw [hl]; exact hq.gn_lt (by omega)
    have a1 := hle _ l1
    have a2 := hle _ l2
    have b1 := hge _ l1
    have b2 := hge _ l2
    rw [orb_one hp hq hl hj'] at b1
    rw [orb_two hp hq hl hj'] at b2
    exact ⟨by omega, by omega⟩
  · obtain rfl : j = i := by omega
    have hvv : v = orb p q j := by
      have := h.le j hi
      rw [e] at this
      omega
    rw [hnew, hnew, if_pos (.inr (.inl rfl)), if_pos (.inr (.inr rfl))]
    exact ⟨hvv, hvv⟩

theorem filter_le {P Q : Nat → Bool} : ∀ (l : List Nat), (∀ j, j ∈ l → P j = true → Q j = true) → (l.filter P).length ≤ (l.filter Q).length := by
  intro l
  induction l with
  | nil => intro _; simp
  | cons a l ih =>
    intro h
    have h1 := ih (fun j hj => h j (List.mem_cons_of_mem _ hj))
    have h2 := h a (by simp)
    simp only [List.filter_cons]
    by_cases hp : P a = true
    · rw [if_pos hp, if_pos (h2 hp)]; simp; exact h1
    · rw [if_neg hp]; split <;> simp <;> omega
theorem filter_lt {P Q : Nat → Bool} {y : Nat} : ∀ (l : List Nat), (∀ j, j ∈ l → P j = true → Q j = true) → y ∈ l → P y = false → Q y = true → (l.filter P).length < (l.filter Q).length := by
  intro l
  induction l with
  | nil => intro _ h; cases h
  | cons a l ih =>
    intro h hy hpy hqy
    have h0 := filter_le l (fun j hj => h j (List.mem_cons_of_mem _ hj))
    have h2 := h a (by simp)
    simp only [List.filter_cons]
    by_cases e : y = a
    · subst e
      rw [if_neg (by simp [hpy]), if_pos hqy]; simp; omega
    · have hyl : y ∈ l := by
        rcases List.mem_cons.1 hy with h | h
        · exact absurd h e
        · exact h
      have h1 := ih (fun j hj => h j (List.mem_cons_of_mem _ hj)) hyl hpy hqy
      by_cases hp : P a = true
      · rw [if_pos hp, if_pos (h2 hp)]; simp; exact h1
      · rw [if_neg hp]; split <;> simp <;> omega

noncomputable def bad (p q out : List Int) : Nat := ((List.range p.length).filter fun j => decide (gi out j ≠ (orb p q j : Int))).length
structure Rounds (p q : List Int) (r : Nat) (out : List Int) : Prop where
  len : out.length = p.length
  ge : ∀ j, j < p.length → (orb p q j : Int) ≤ gi out j
  le : ∀ j, j < p.length → gi out j ≤ j
  few : bad p q out + r ≤ p.length
theorem Rounds.start {p q out : List Int} (hl : out.length = p.length) (h : ∀ j, j < p.length → gi out j = j) : Rounds p q 0 out :=
  ⟨hl, fun j hj => by rw [h j hj]; exact Int.ofNat_le.2 orb_le, fun j hj => by rw [h j hj]; exact Int.le_refl _, by
    unfold bad
    exact Nat.le_trans (List.length_filter_le _ _) (by simp)⟩
theorem Rounds.next {p q out0 out : List Int} {r : Nat} (hp : Vld p) (hq : Vld q) (hl : p.length = q.length) (h : Rounds p q r out0) (hr : r < p.length) (hx : Relax p q out0 p.length out) : Rounds p q (r + 1) out := by
  have keep : ∀ j, j < p.length → gi out0 j = (orb p q j : Int) → gi out j = (orb p q j : Int) := fun j hj e => by
    have := hx.le j hj
    have := hx.ge j hj
    omega
  refine ⟨hx.len, hx.ge, fun j hj => Int.le_trans (hx.le j hj) (h.le j hj), ?_⟩
  have hf := h.few
  by_cases hb : ∃ j, j < p.length ∧ gi out0 j ≠ (orb p q j : Int)
  · obtain ⟨j, hj, hw⟩ := hb
    have hm : orb p q j < p.length := Nat.lt_of_le_of_lt orb_le hj
    have hmr : gi out0 (orb p q j) = (orb p q (orb p q j) : Int) := by
      have := h.le _ hm
      have := h.ge _ hm
      rw [orb_orb hp hq hl hj] at *
      omega
    obtain ⟨u, v, hu, hru, hrv, huv⟩ := Lead.turn (R := fun x => gi out0 x = (orb p q x : Int)) orb_lead hmr hw
    have hul := hu.lt hp hq hl hm
    have hd := hx.did u hul hru
    have hvr : v < p.length ∧ gi out v = (orb p q v : Int) := by
      rcases huv with rfl | rfl
      · exact ⟨hp.gn_lt hul, by rw [orb_one hp hq hl hul]; exact hd.1⟩
      · exact ⟨by rw [hl]; exact hq.gn_lt (by omega), by rw [orb_two hp hq hl hul]; exact hd.2⟩
    have hlt : bad p q out < bad p q out0 := by
      unfold bad
      refine filter_lt (y := v) _ (fun k hk hkb => ?_) (List.mem_range.2 hvr.1) (by simp [hvr.2]) (by simpa using hrv)
      simp only [decide_eq_true_eq] at hkb ⊢
      exact fun e => hkb (keep k (List.mem_range.1 hk) e)
    omega
  · have h0 : bad p q out = 0 := by
      unfold bad
      rw [List.length_eq_zero_iff, List.filter_eq_nil_iff]
      intro k hk
      simp only [List.mem_range] at hk
      simp only [decide_eq_true_eq, Decidable.not_not]
      apply keep k hk
      apply Decidable.byContradiction
      intro e
      exact hb ⟨k, hk, e⟩
    omega
theorem Rounds.done {p q out : List Int} (h : Rounds p q p.length out) : out = orbL p q := by
  have h0 : bad p q out = 0 := by have := h.few; omega
  unfold bad at h0
  rw [List.length_eq_zero_iff, List.filter_eq_nil_iff] at h0
  exact tab_ext h.len fun j hj => by simpa using h0 j (List.mem_range.2 hj)

/-! ### Going on from each point in turn -/
structure Firsts (p q : List Int) (first : Nat) (ls : List Int) : Prop where
  len : ls.length = p.length
  val : ∀ j, j < p.length → gi ls j = if orb p q j < first then (orb p q j : Int) else -1
structure Search (p q : List Int) (first : Nat) (ls st : List Int) : Prop where
  len : ls.length = p.length
  val : ∀ j, j < p.length → gi ls j = -1 ∨ (gi ls j = (orb p q j : Int) ∧ orb p q j ≤ first)
  old : ∀ j, j < p.length → orb p q j < first → gi ls j = (orb p q j : Int)
  stk : ∀ s, s ∈ st → ∃ x : Nat, s = (x : Int) ∧ x < p.length ∧ Lead p q first x
  shut : ∀ j, j < p.length → gi ls j = (first : Int) → (gi ls (gn p j) ≠ -1 ∨ (gn p j : Int) ∈ st) ∧ (gi ls (gn q j) ≠ -1 ∨ (gn q j : Int) ∈ st)
  root : gi ls first ≠ -1 ∨ (first : Int) ∈ st
theorem Firsts.start {p q ls : List Int} (hl : ls.length = p.length) (h : ∀ j, j < p.length → gi ls j = -1) : Firsts p q 0 ls :=
  ⟨hl, fun j hj => by rw [h j hj, if_neg (by omega)]⟩
theorem Firsts.search {p q ls : List Int} {first : Nat} (h : Firsts p q first ls) (hf : first < p.length) : Search p q first ls [(first : Int)] := by
  refine ⟨h.len, fun j hj => ?_, fun j hj ho => by rw [h.val j hj, if_pos ho], fun s hs => ?_, fun j hj e => ?_, .inr (by simp)⟩
  · rw [h.val j hj]
    split
    · exact .inr ⟨rfl, by omega⟩
    · exact .inl rfl
  · simp only [List.mem_cons, List.not_mem_nil, or_false] at hs
    exact ⟨first, hs, hf, .refl _⟩
  · rw [h.val j hj] at e
    split at e <;> omega
theorem Search.old_mark {p q ls st : List Int} {first x : Nat} (h : Search p q first ls (st ++ [(x : Int)])) (hm : gi ls x ≠ -1) : Search p q first ls st := by
  refine ⟨h.len, h.val, h.old, fun s hs => h.stk s (by simp [hs]), fun j hj e => ?_, ?_⟩
  · obtain ⟨h1, h2⟩ := h.shut j hj e
    constructor
    · rcases h1 with h1 | h1
      · exact .inl h1
      · rcases List.mem_append.1 h1 with h1 | h1
        · exact .inr h1
        · simp only [List.mem_cons, List.not_mem_nil, or_false] at h1
          refine .inl ?_
          rw [show gn p j = x by omega]; exact hm
    · rcases h2 with h2 | h2
      · exact .inl h2
      · rcases List.mem_append.1 h2 with h2 | h2
        · exact .inr h2
        · simp only [List.mem_cons, List.not_mem_nil, or_false] at h2
          refine .inl ?_
          rw [show gn q j = x by omega]; exact hm
  · rcases h.root with h1 | h1
    · exact .inl h1
    · rcases List.mem_append.1 h1 with h1 | h1
      · exact .inr h1
      · simp only [List.mem_cons, List.not_mem_nil, or_false] at h1
        refine .inl ?_
        rw [show first = x by omega]; exact hm
theorem Search.new_mark {p q ls st : List Int} {first x : Nat} (hp : Vld p) (hq : Vld q) (hl : p.length = q.length) (h : Search p q first ls (st ++ [(x : Int)])) (hm : gi ls x = -1) :
    Search p q first (ls.set x (first : Int)) (st ++ [(gn p x : Int), (gn q x : Int)]) := by
  obtain ⟨x', hx', hxl, hlead⟩ := h.stk (x : Int) (by simp)
  obtain rfl : x = x' := by omega
  have hxo : orb p q x = first := by
    have h1 : orb p q x ≤ first := orb_least hlead
    rcases Nat.lt_or_ge (orb p q x) first with h2 | h2
    · have := h.old x hxl h2
      rw [hm] at this; omega
    · omega
  have hset : ∀ j, gi (ls.set x (first : Int)) j = if j = x then (first : Int) else gi ls j := fun j => gi_set _ _ _ _ (by rw [h.len]; exact hxl)
  have hmono : ∀ j, gi ls j ≠ -1 → gi (ls.set x (first : Int)) j ≠ -1 := fun j hj => by
    rw [hset]; split
    · omega
    · exact hj
  have hmem : ∀ y : Nat, (gi ls y ≠ -1 ∨ (y : Int) ∈ st ++ [(x : Int)]) → gi (ls.set x (first : Int)) y ≠ -1 ∨ (y : Int) ∈ st ++ [(gn p x : Int), (gn q x : Int)] := by
    rintro y (h1 | h1)
    · exact .inl (hmono y h1)
    · rcases List.mem_append.1 h1 with h1 | h1
      · exact .inr (by simp [h1])
      · simp only [List.mem_cons, List.not_mem_nil, or_false] at h1
        refine .inl ?_
        rw [show y = x by omega, hset, if_pos rfl]; omega
  refine ⟨by simpa using h.len, fun j hj => ?_, fun j hj ho => ?_, fun s hs => ?_, fun j hj e => ?_, hmem _ h.root⟩
  · rw [hset]; split
    · rename_i e; subst e; exact .inr ⟨by rw [hxo], by omega⟩
    · exact h.val j hj
  · rw [hset]; split
    · rename_i e; subst e; rw [hxo]
    · exact h.old j hj ho
  · rcases List.mem_append.1 hs with hs | hs
    · exact h.stk s (by simp [hs])
    · simp only [List.mem_cons, List.not_mem_nil, or_false] at hs
      rcases hs with rfl | rfl
      · exact ⟨_, rfl, hp.gn_lt hxl, .one hlead⟩
      · exact ⟨_, rfl, by rw [hl]; exact hq.gn_lt (by omega), .two hlead⟩
  · by_cases ej : j = x
    · subst ej
      exact ⟨.inr (by simp), .inr (by simp)⟩
    · rw [hset, if_neg ej] at e
      obtain ⟨h1, h2⟩ := h.shut j hj e
      exact ⟨hmem _ h1, hmem _ h2⟩
theorem Search.done {p q ls : List Int} {first : Nat} (hp : Vld p) (hq : Vld q) (hl : p.length = q.length) (h : Search p q first ls []) : Firsts p q (first + 1) ls := by
  refine ⟨h.len, fun j hj => ?_⟩
  by_cases hlt : orb p q j < first
  · rw [if_pos (by omega)]; exact h.old j hj hlt
  · by_cases he : orb p q j = first
    · rw [if_pos (by omega)]
      rcases h.val j hj with h1 | h1
      · exfalso
        have hroot : gi ls (orb p q j) ≠ -1 := by
          rw [he]
          rcases h.root with h | h
          · exact h
          · cases h
        obtain ⟨u, v, hu, hru, hrv, huv⟩ := Lead.turn (R := fun x => gi ls x ≠ -1) (p := p) (q := q) orb_lead hroot (by simpa using h1)
        have hfl : orb p q j < p.length := Nat.lt_of_le_of_lt orb_le hj
        have hul := hu.lt hp hq hl hfl
        have huo : orb p q u = first := by rw [orb_eq hp hq hl hu hfl, orb_orb hp hq hl hj, he]
        have hum : gi ls u = (first : Int) := by
          rcases h.val u hul with h2 | h2
          · exact absurd h2 hru
          · rw [h2.1, huo]
        obtain ⟨s1, s2⟩ := h.shut u hul hum
        rcases huv with rfl | rfl
        · rcases s1 with s | s
          · exact hrv s
          · cases s
        · rcases s2 with s | s
          · exact hrv s
          · cases s
      · exact h1.1
    · rw [if_neg (by omega)]
      rcases h.val j hj with h1 | h1
      · exact h1
      · omega
theorem Firsts.done {p q ls : List Int} (h : Firsts p q p.length ls) : ls = orbL p q :=
  tab_ext h.len fun j hj => by rw [h.val j hj, if_pos (Nat.lt_of_le_of_lt orb_le hj)]

/-- How many points bear no mark. -/
def bare (ls : List Int) : Nat := ls.count (-1)
theorem bare_set {ls : List Int} {x : Nat} {v : Int} (hx : x < ls.length) (h : gi ls x = -1) (hv : 0 ≤ v) : bare (ls.set x v) + 1 = bare ls := by
  unfold bare
  rw [List.count_set hx]
  have e : ls[x] = -1 := by rw [← gi_eq hx]; exact h
  have : 0 < ls.count (-1) := List.count_pos_iff.2 (by rw [← e]; exact List.getElem_mem hx)
  rw [e]
  have hv' : (v == (-1 : Int)) = false := by simp; omega
  simp [hv']
  omega

noncomputable def orbR (a b : List Int) : Bool × List Int := if both a b = true then (true, orbL a b) else (false, [])
theorem orbR_len {a b ys : List Int} {ok : Bool} (h : orbR a b = (ok, ys)) : ys.length ≤ 12 := by
  unfold orbR at h
  split at h
  · rename_i hb
    injection h with _ h; rw [← h, orbL_len]; exact (both_iff.1 hb).1.2.1
  · injection h with _ h; rw [← h]; simp

end Go.Proofs.Ytcenffndclpjoaa

namespace Go.Proofs.Ytcenffndclpjoaa

def Paired (f : List Int) : Prop := ∀ i, i < f.length → gn f i ≠ i ∧ gn f (gn f i) = i
instance (f : List Int) : Decidable (Paired f) := by unfold Paired; infer_instance
def pairedB (f : List Int) : Bool := decide (Paired f)
theorem pairedB_true {f : List Int} (h : Paired f) : pairedB f = true := by simp [pairedB, h]
theorem pairedB_false {f : List Int} (h : ¬ Paired f) : pairedB f = false := by simp [pairedB, h]
theorem Paired_of {f : List Int} (h : pairedB f = true) : Paired f := by simpa [pairedB] using h

def Whole (t f : List Int) : Prop := ∀ j, j < t.length → orb t f j = 0
noncomputable instance (t f : List Int) : Decidable (Whole t f) := by unfold Whole; infer_instance
noncomputable def wholeB (t f : List Int) : Bool := decide (Whole t f)
theorem wholeB_true {t f : List Int} (h : Whole t f) : wholeB t f = true := by simp [wholeB, h]
theorem wholeB_false {t f : List Int} (h : ¬ Whole t f) : wholeB t f = false := by simp [wholeB, h]
theorem Whole_of {t f : List Int} (h : wholeB t f = true) : Whole t f := by simpa [wholeB] using h

noncomputable def mapV (t f : List Int) : Bool := both t f && (pairedB f && wholeB t f)
structure IsMap (t f : List Int) : Prop where
  turn : Vld t
  flip : Vld f
  len : t.length = f.length
  paired : Paired f
  whole : Whole t f
theorem mapV_iff {t f : List Int} : mapV t f = true ↔ IsMap t f := by
  simp only [mapV, Bool.and_eq_true, both_iff]
  constructor
  · rintro ⟨⟨h1, h2, h3⟩, h4, h5⟩
    exact ⟨h1, h2, h3, Paired_of h4, Whole_of h5⟩
  · rintro ⟨h1, h2, h3, h4, h5⟩
    exact ⟨⟨h1, h2, h3⟩, pairedB_true h4, wholeB_true h5⟩

/-- The greatest of the first k + 1 numbers. -/
def maxTo (xs : List Int) : Nat → Int
  | 0 => gi xs 0
  | k + 1 => max (maxTo xs k) (gi xs (k + 1))
theorem maxTo_le {xs : List Int} {b : Int} : ∀ (k : Nat), maxTo xs k ≤ b ↔ ∀ j, j ≤ k → gi xs j ≤ b := by
  intro k
  induction k with
  | zero =>
    constructor
    · intro h j hj
      obtain rfl : j = 0 := by omega
      exact h
    · intro h; exact h 0 (Nat.le_refl _)
  | succ k ih =>
    rw [maxTo]
    constructor
    · intro h j hj
      by_cases e : j = k + 1
      · subst e; omega
      · exact ih.1 (by omega) j (by omega)
    · intro h
      have h1 := ih.2 (fun j hj => h j (by omega))
      have h2 := h (k + 1) (Nat.le_refl _)
      omega
theorem maxTo_ge (xs : List Int) : ∀ k : Nat, gi xs 0 ≤ maxTo xs k := by
  intro k
  induction k with
  | zero => exact Int.le_refl _
  | succ k ih => rw [maxTo]; omega
theorem max_whole {t f : List Int} (h1 : 1 ≤ t.length) : (maxTo (orbL t f) (t.length - 1) == 0) = wholeB t f := by
  rw [Bool.eq_iff_iff, beq_iff_eq]
  have h0 : 0 ≤ gi (orbL t f) 0 := by rw [gi_orbL (by omega)]; omega
  have hg := maxTo_ge (orbL t f) (t.length - 1)
  constructor
  · intro h
    have hl := (maxTo_le (xs := orbL t f) (b := 0) (t.length - 1)).1 (by omega)
    refine wholeB_true fun j hj => ?_
    have := hl j (by omega)
    rw [gi_orbL hj] at this
    omega
  · intro h
    have hw := Whole_of h
    have := (maxTo_le (xs := orbL t f) (b := 0) (t.length - 1)).2 (fun j hj => by
      rw [gi_orbL (by omega), hw j (by omega)]; omega)
    omega

end Go.Proofs.Ytcenffndclpjoaa

namespace Go.Proofs.Ytcenffndclpjoaa

theorem conj_gn' {p b : List Int} (hb : Vld b) {x : Nat} (hx : x < b.length) : gn (conjL p b) (gn b x) = gn b (gn p x) := by
  have := conjL_at (p := p) hb hx
  unfold gn at this ⊢
  rw [this]
theorem conj_vld {p b : List Int} (hp : Vld p) (hb : Vld b) (hl : p.length = b.length) : Vld (conjL p b) := by
  have hlen := conjL_len p b
  refine ⟨by rw [hlen]; exact hb.1, by rw [hlen]; exact hb.2.1, fun j hj => ?_, fun j hj i hij e => ?_⟩
  · rw [hlen] at hj ⊢
    obtain ⟨x, hx, rfl⟩ := hb.surj hj
    rw [conjL_at hb hx]
    exact hb.2.2.1 _ (by rw [← hl]; exact hp.gn_lt (by omega))
  · rw [hlen] at hj
    obtain ⟨x, hx, rfl⟩ := hb.surj hj
    obtain ⟨y, hy, rfl⟩ := hb.surj (show i < b.length by omega)
    rw [conjL_at hb hx, conjL_at hb hy] at e
    have hx' : gn p x < b.length := by rw [← hl]; exact hp.gn_lt (by omega)
    have hy' : gn p y < b.length := by rw [← hl]; exact hp.gn_lt (by omega)
    have e2 : gn b (gn p y) = gn b (gn p x) := by rw [hb.gi_gn hx', hb.gi_gn hy'] at e; omega
    have := hp.inj (by omega) (by omega) (hb.inj hy' hx' e2)
    rw [this] at hij; omega
theorem whole_of_lead {t f : List Int} (h : ∀ j, j < t.length → Lead t f 0 j) : Whole t f := fun j hj => by
  have := orb_least (h j hj); omega
theorem IsMap.lead0 {t f : List Int} (hm : IsMap t f) {j : Nat} (hj : j < t.length) : Lead t f 0 j := by
  have h := orb_lead (p := t) (q := f) (x := j)
  rwa [hm.whole j hj] at h
theorem IsMap.lead {t f : List Int} (hm : IsMap t f) {i j : Nat} (hi : i < t.length) (hj : j < t.length) : Lead t f i j :=
  ((hm.lead0 hi).sym hm.turn hm.flip hm.len hm.turn.1).trans (hm.lead0 hj)
theorem lead_ren {t f b : List Int} (hm : IsMap t f) (hb : Vld b) (hl : b.length = t.length) {x y : Nat} (h : Lead t f x y) (hx : x < t.length) : Lead (conjL t b) (conjL f b) (gn b x) (gn b y) ∧ y < t.length := by
  induction h with
  | refl => exact ⟨.refl _, hx⟩
  | @one y h ih => exact ⟨by rw [← conj_gn' hb (by omega)]; exact .one ih.1, hm.turn.gn_lt ih.2⟩
  | @two y h ih => exact ⟨by rw [← conj_gn' hb (by omega)]; exact .two ih.1, by rw [hm.len]; exact hm.flip.gn_lt (by rw [← hm.len]; exact ih.2)⟩
theorem IsMap.ren {t f b : List Int} (hm : IsMap t f) (hb : Vld b) (hl : b.length = t.length) : IsMap (conjL t b) (conjL f b) := by
  have h1 := conjL_len t b
  have h2 := conjL_len f b
  have hlf := hm.len
  refine ⟨conj_vld hm.turn hb hl.symm, conj_vld hm.flip hb (by omega), by omega, fun i hi => ?_, whole_of_lead fun j hj => ?_⟩
  · rw [h2] at hi
    obtain ⟨x, hx, rfl⟩ := hb.surj hi
    have hfx : gn f x < b.length := by rw [hl, hm.len]; exact hm.flip.gn_lt (by omega)
    have hp := hm.paired x (by omega)
    rw [conj_gn' hb hx, conj_gn' hb hfx, hp.2]
    exact ⟨fun e => hp.1 (hb.inj hfx hx e), rfl⟩
  · rw [h1] at hj
    obtain ⟨x, hx, rfl⟩ := hb.surj hj
    obtain ⟨z, hz, hz0⟩ := hb.surj (v := 0) hb.1
    have := (lead_ren hm hb hl (hm.lead (i := z) (j := x) (by omega) (by omega)) (by omega)).1
    rwa [hz0] at this

end Go.Proofs.Ytcenffndclpjoaa

namespace Go.Proofs.Ytcenffndclpjoaa

/-- A dart that has no name takes the next one. -/
def nameOne (s : List Int × List Int) (x : Nat) : List Int × List Int := if gi s.1 x = -1 then (s.1.set x (s.2.length : Int), s.2 ++ [(x : Int)]) else s
def nameTwo (t f : List Int) (s : List Int × List Int) (d : Nat) : List Int × List Int := nameOne (nameOne s (gn t d)) (gn f d)
def nameGo (t f : List Int) : Nat → Nat → List Int × List Int → List Int
  | 0, _, s => s.1
  | m + 1, k, s => if k < s.2.length then nameGo t f m (k + 1) (nameTwo t f s (gn s.2 k)) else s.1
def namesL (t f : List Int) (root : Nat) : List Int := nameGo t f (t.length + 1) 0 ((List.replicate t.length (-1)).set root 0, [(root : Int)])

/-- What has been named, and the darts in the order of their names. -/
structure Named (n : Nat) (nm q : List Int) : Prop where
  len : nm.length = n
  nat : ∀ i, i < q.length → gi q i = (gn q i : Int) ∧ gn q i < n ∧ gi nm (gn q i) = (i : Int)
  all : ∀ x, x < n → gi nm x = -1 ∨ ∃ i, i < q.length ∧ gn q i = x
section
variable {n : Nat} {nm q : List Int}
theorem Named.few (h : Named n nm q) : q.length ≤ n := by
  have hnd : ((List.range q.length).map (gn q)).Nodup := by
    rw [List.nodup_iff_pairwise_ne, List.pairwise_map]
    refine List.Pairwise.imp_of_mem ?_ List.pairwise_lt_range
    intro a b ha hb hab e
    have h1 := (h.nat a (List.mem_range.1 ha)).2.2
    have h2 := (h.nat b (List.mem_range.1 hb)).2.2
    rw [e, h2] at h1
    omega
  have := nodup_len n _ hnd (fun j hj => by
    obtain ⟨i, hi, rfl⟩ := List.mem_map.1 hj
    exact (h.nat i (List.mem_range.1 hi)).2.1)
  simpa using this
theorem Named.or (h : Named n nm q) {x : Nat} (hx : x < n) : gi nm x = -1 ∨ ∃ i, i < q.length ∧ gn q i = x ∧ gi nm x = (i : Int) := by
  rcases h.all x hx with h1 | ⟨i, hi, rfl⟩
  · exact .inl h1
  · exact .inr ⟨i, hi, rfl, (h.nat i hi).2.2⟩
theorem Named.one (h : Named n nm q) {x : Nat} (hx : x < n) : Named n (nameOne (nm, q) x).1 (nameOne (nm, q) x).2 := by
  unfold nameOne
  by_cases e : gi nm x = -1
  · rw [if_pos e]
    have hset : ∀ j, gi (nm.set x (q.length : Int)) j = if j = x then (q.length : Int) else gi nm j := fun j => gi_set _ _ _ _ (by rw [h.len]; exact hx)
    refine ⟨by simpa using h.len, fun i hi => ?_, fun y hy => ?_⟩
    · simp only [List.length_append, List.length_cons, List.length_nil] at hi
      by_cases hi' : i < q.length
      · obtain ⟨h1, h2, h3⟩ := h.nat i hi'
        rw [gi_append_left hi', gn_append_left hi', hset]
        refine ⟨h1, h2, ?_⟩
        rw [if_neg (fun e' => by rw [e'] at h3; omega)]
        exact h3
      · obtain rfl : i = q.length := by omega
        rw [gi_append_last, gn_append_last, hset, if_pos rfl]
        exact ⟨rfl, hx, rfl⟩
    · simp only [hset]
      by_cases ey : y = x
      · subst ey
        exact .inr ⟨q.length, by simp, gn_append_last⟩
      · rw [if_neg ey]
        rcases h.all y hy with h1 | ⟨i, hi, h1⟩
        · exact .inl h1
        · exact .inr ⟨i, by simp; omega, by rw [gn_append_left hi]; exact h1⟩
  · rw [if_neg e]; exact h
theorem one_more (nm q : List Int) (x : Nat) : q.length ≤ (nameOne (nm, q) x).2.length ∧ ∀ i, i < q.length → gn (nameOne (nm, q) x).2 i = gn q i := by
  unfold nameOne
  split
  · exact ⟨by simp, fun i hi => gn_append_left hi⟩
  · exact ⟨Nat.le_refl _, fun _ _ => rfl⟩
theorem Named.one_keep (h : Named n nm q) {x y : Nat} (hx : x < n) (hy : gi nm y ≠ -1) : gi (nameOne (nm, q) x).1 y ≠ -1 := by
  unfold nameOne
  split
  · rw [gi_set _ _ _ _ (by rw [h.len]; exact hx)]
    split
    · omega
    · exact hy
  · exact hy
theorem Named.one_has (h : Named n nm q) {x : Nat} (hx : x < n) : gi (nameOne (nm, q) x).1 x ≠ -1 := by
  unfold nameOne
  split
  · rw [gi_set _ _ _ _ (by rw [h.len]; exact hx), if_pos rfl]; omega
  · assumption
end

/-- The outer loop at place k. -/
structure Naming (t f : List Int) (root : Nat) (k : Nat) (nm q : List Int) : Prop where
  named : Named t.length nm q
  le : k ≤ q.length
  eq : namesL t f root = nameGo t f (t.length + 1 - k) k (nm, q)
  seen : ∀ i, i < k → gi nm (gn t (gn q i)) ≠ -1 ∧ gi nm (gn f (gn q i)) ≠ -1
  root : gi nm root ≠ -1
section
variable {t f nm q : List Int} {root k : Nat}
theorem Naming.start (hr : root < t.length) : Naming t f root 0 ((List.replicate t.length (-1)).set root 0) [(root : Int)] := by
  have hset : ∀ j, gi ((List.replicate t.length (-1)).set root 0) j = if j = root then 0 else gi (List.replicate t.length (-1)) j := fun j => gi_set _ _ _ _ (by simpa using hr)
  refine ⟨⟨by simp, fun i hi => ?_, fun x hx => ?_⟩, Nat.zero_le _, rfl, fun i hi => absurd hi (by omega), by rw [hset, if_pos rfl]; omega⟩
  · obtain rfl : i = 0 := by simp at hi; omega
    have e : gn [(root : Int)] 0 = root := by simp [gn, gi]
    rw [e, hset, if_pos rfl]
    exact ⟨by simp [gi], hr, rfl⟩
  · rw [hset]
    by_cases e : x = root
    · exact .inr ⟨0, by simp, by rw [e]; simp [gn, gi]⟩
    · rw [if_neg e]
      left
      rw [gi_eq (by simpa using hx)]; simp
theorem Naming.at_ (h : Naming t f root k nm q) (hk : k < q.length) : gn q k < t.length := (h.named.nat k hk).2.1
theorem Naming.next (ht : Vld t) (hf : Vld f) (hl : t.length = f.length) (h : Naming t f root k nm q) (hk : k < q.length) :
    Naming t f root (k + 1) (nameTwo t f (nm, q) (gn q k)).1 (nameTwo t f (nm, q) (gn q k)).2 := by
  have hd := h.at_ hk
  have hx : gn t (gn q k) < t.length := ht.gn_lt hd
  have hy : gn f (gn q k) < t.length := by rw [hl]; exact hf.gn_lt (by omega)
  have n1 := h.named.one hx
  have n2 := n1.one hy
  have m1 := one_more nm q (gn t (gn q k))
  have m2 := one_more (nameOne (nm, q) (gn t (gn q k))).1 (nameOne (nm, q) (gn t (gn q k))).2 (gn f (gn q k))
  have keep : ∀ z, gi nm z ≠ -1 → gi (nameTwo t f (nm, q) (gn q k)).1 z ≠ -1 := fun z hz => n1.one_keep hy (h.named.one_keep hx hz)
  have hq : ∀ i, i < q.length → gn (nameTwo t f (nm, q) (gn q k)).2 i = gn q i := fun i hi => (m2.2 i (by omega)).trans (m1.2 i hi)
  have hle : q.length ≤ (nameTwo t f (nm, q) (gn q k)).2.length := Nat.le_trans m1.1 m2.1
  have hf1 := h.named.few
  refine ⟨n2, by omega, ?_, fun i hi => ?_, keep _ h.root⟩
  · rw [h.eq, show t.length + 1 - k = (t.length + 1 - (k + 1)) + 1 by omega, nameGo, if_pos hk]
  · rw [hq i (by omega)]
    by_cases e : i = k
    · subst e
      exact ⟨n1.one_keep hy (h.named.one_has hx), n1.one_has hy⟩
    · obtain ⟨s1, s2⟩ := h.seen i (by omega)
      exact ⟨keep _ s1, keep _ s2⟩
theorem Naming.done (hm : IsMap t f) (hr : root < t.length) (h : Naming t f root k nm q) (hk : ¬ k < q.length) : namesL t f root = nm ∧ Vld nm := by
  have hkl : k = q.length := by have := h.le; omega
  have hf1 := h.named.few
  constructor
  · rw [h.eq, show t.length + 1 - k = (t.length - k) + 1 by omega, nameGo, if_neg hk]
  · have hall : ∀ x, x < t.length → gi nm x ≠ -1 := by
      intro x hx
      have l1 : Lead t f 0 root := by have := orb_lead (p := t) (q := f) (x := root); rwa [hm.whole root hr] at this
      have l2 : Lead t f 0 x := by have := orb_lead (p := t) (q := f) (x := x); rwa [hm.whole x hx] at this
      have l3 := (l1.sym hm.turn hm.flip hm.len (by omega)).trans l2
      apply Decidable.byContradiction
      intro hc
      obtain ⟨u, v, hu, hru, hrv, huv⟩ := Lead.turn (R := fun z => gi nm z ≠ -1) l3 h.root hc
      have hul := hu.lt hm.turn hm.flip hm.len hr
      rcases h.named.or hul with h1 | ⟨i, hi, h1, _⟩
      · exact hru h1
      · obtain ⟨s1, s2⟩ := h.seen i (by omega)
        rw [h1] at s1 s2
        rcases huv with rfl | rfl
        · exact hrv s1
        · exact hrv s2
    have hlen := h.named.len
    refine ⟨by rw [hlen]; exact hm.turn.1, by rw [hlen]; exact hm.turn.2.1, fun j hj => ?_, fun j hj i hij e => ?_⟩
    · rw [hlen] at hj ⊢
      rcases h.named.or hj with h1 | ⟨i, hi, _, h1⟩
      · exact absurd h1 (hall j hj)
      · rw [h1]; exact ⟨by omega, by omega⟩
    · rw [hlen] at hj
      rcases h.named.or hj with h1 | ⟨a, ha, h2, h1⟩
      · exact absurd h1 (hall j hj)
      · rcases h.named.or (show i < t.length by omega) with h3 | ⟨b, hb, h4, h3⟩
        · exact absurd h3 (hall i (by omega))
        · rw [h1, h3] at e
          have : a = b := by omega
          subst this
          omega
end

end Go.Proofs.Ytcenffndclpjoaa

namespace Go.Proofs.Ytcenffndclpjoaa

theorem Vld.prm {p : List Int} (h : Vld p) : Prm p.length (gn p) := ⟨fun _ hi => h.gn_lt hi, fun _ _ hi hj e => h.inj hi hj e⟩
theorem it_itf (p : List Int) : ∀ k x, it p k x = itf (gn p) k x
  | 0, _ => rfl
  | k + 1, x => by rw [it, itf, it_itf p k x]

def smC (F : Nat → Nat) (c : List Int) : Nat := sm c.length fun j => F (gn c j)
def smCs (F : Nat → Nat) : List (List Int) → Nat
  | [] => 0
  | c :: cs => smC F c + smCs F cs
theorem smCs_congr {F G : Nat → Nat} : ∀ {cs : List (List Int)}, (∀ c, c ∈ cs → smC F c = smC G c) → smCs F cs = smCs G cs
  | [], _ => rfl
  | c :: cs, h => by rw [smCs, smCs, h c (by simp), smCs_congr (fun d hd => h d (by simp [hd]))]
theorem smCs_one {F : Nat → Nat} : ∀ {cs : List (List Int)}, (∀ c, c ∈ cs → smC F c = 1) → smCs F cs = cs.length
  | [], _ => rfl
  | c :: cs, h => by rw [smCs, h c (by simp), smCs_one (fun d hd => h d (by simp [hd]))]; simp; omega

theorem sm_swap (t : Nat → Nat → Nat) (m : Nat) : ∀ n, sm n (fun i => sm m fun k => t i k) = sm m (fun k => sm n fun i => t i k)
  | 0 => by rw [sm, sm_congr m (F := fun k => sm 0 fun i => t i k) (G := fun _ => 0) (fun _ _ => rfl), sm_zero]
  | n + 1 => by
    rw [sm, sm_swap t m n, ← sm_add]
    rfl
theorem smC_hits {p c : List Int} (h : Cyc p c) (F : Nat → Nat) : smC F c = sm p.length fun x => ch (inC c x) * F x := by
  unfold smC
  rw [sm_congr c.length (G := fun j => sm p.length fun x => ch (gn c j = x) * F x) (fun j hj => by
    rw [sm_one (i0 := gn c j) p.length (h.lt j hj) (fun k _ hne => by rw [ch_false (fun e => hne e.symm), Nat.zero_mul]), ch_true rfl, Nat.one_mul]), sm_swap]
  refine sm_congr p.length fun x _ => ?_
  by_cases hx : inC c x
  · obtain ⟨j0, hj0, e⟩ := hx
    rw [sm_one (i0 := j0) c.length hj0 (fun k hk hne => by
      rw [ch_false (fun e' => ?_), Nat.zero_mul]
      rcases Nat.lt_or_gt_of_ne hne with hlt | hlt
      · exact h.apart k j0 hlt hj0 (e'.trans e.symm)
      · exact h.apart j0 k hlt hk (e.trans e'.symm)), ch_true e, ch_true ⟨j0, hj0, e⟩]
  · rw [ch_false hx, sm_congr c.length (G := fun _ => 0) (fun j hj => by rw [ch_false (fun e => hx ⟨j, hj, e⟩), Nat.zero_mul]), sm_zero]; omega
theorem smCs_hits {p : List Int} (F : Nat → Nat) : ∀ {cs : List (List Int)}, (∀ c, c ∈ cs → Cyc p c) → cs.Pairwise (fun c d => ∀ x, inC c x → ¬ inC d x) →
    smCs F cs = sm p.length fun x => ch (∃ c, c ∈ cs ∧ inC c x) * F x
  | [], _, _ => by rw [smCs, sm_congr p.length (G := fun _ => 0) (fun x _ => by rw [ch_false (by simp), Nat.zero_mul]), sm_zero]
  | c :: cs, h, hp => by
    obtain ⟨h1, h2⟩ := List.pairwise_cons.1 hp
    rw [smCs, smC_hits (h c (by simp)) F, smCs_hits F (fun d hd => h d (by simp [hd])) h2, ← sm_add]
    refine sm_congr p.length fun x _ => ?_
    rw [← Nat.add_mul]
    congr 1
    by_cases hx : inC c x
    · rw [ch_true hx, ch_false (fun ⟨d, hd, hx'⟩ => h1 d hd x hx hx'), ch_true ⟨c, by simp, hx⟩]
    · rw [ch_false hx, Nat.zero_add]
      refine ch_congr ⟨fun ⟨d, hd, hx'⟩ => ⟨d, by simp [hd], hx'⟩, fun ⟨d, hd, hx'⟩ => ?_⟩
      rcases List.mem_cons.1 hd with rfl | hd
      · exact absurd hx' hx
      · exact ⟨d, hd, hx'⟩
/-- A sum over the points is one over the cycles. -/
theorem sum_cycles {p : List Int} (hp : Vld p) (F : Nat → Nat) : sm p.length F = smCs F (cyclesL p) := by
  obtain ⟨h1, h2, h3⟩ := cyclesL_spec hp
  rw [smCs_hits F h1 h3]
  exact sm_congr p.length fun x hx => by rw [ch_true (h2 x hx), Nat.one_mul]

theorem least_at (g : Nat → Nat) : ∀ n, 0 < n → ∃ j, j < n ∧ ∀ i, i < n → g j ≤ g i
  | 0, h => absurd h (by omega)
  | 1, _ => ⟨0, by omega, fun i hi => by obtain rfl : i = 0 := by omega
                                         exact Nat.le_refl _⟩
  | n + 2, _ => by
    obtain ⟨j, hj, h⟩ := least_at g (n + 1) (by omega)
    by_cases e : g j ≤ g (n + 1)
    · refine ⟨j, by omega, fun i hi => ?_⟩
      by_cases e' : i = n + 1
      · rw [e']; exact e
      · exact h i (by omega)
    · refine ⟨n + 1, by omega, fun i hi => ?_⟩
      by_cases e' : i = n + 1
      · rw [e']; exact Nat.le_refl _
      · have := h i (by omega); omega
theorem Cyc.reach {p c : List Int} (h : Cyc p c) {i j : Nat} (hi : i < c.length) (hj : j < c.length) : ∃ k, Go.Proofs.Ytcenffndclpjoaa.it p k (gn c i) = gn c j := by
  refine ⟨j + (c.length - i), ?_⟩
  rw [h.it _ hi, show i + (j + (c.length - i)) = j + c.length from by omega, Nat.add_mod_right, Nat.mod_eq_of_lt hj]
/-- There are as many cycles as points that are the least of their cycles. -/
theorem lows_cycles {p : List Int} (hp : Vld p) : lows p.length (gn p) = (cyclesL p).length := by
  obtain ⟨h1, -, -⟩ := cyclesL_spec hp
  unfold lows
  rw [sum_cycles hp]
  refine smCs_one fun c hc => ?_
  have h := h1 c hc
  obtain ⟨j0, hj0, hmin⟩ := least_at (gn c) c.length h.pos
  unfold smC
  rw [sm_one (i0 := j0) c.length hj0 (fun k hk hne => ch_false fun hall => ?_), ch_true (fun k => ?_)]
  · rw [← it_itf, h.it k hj0]; exact hmin _ (Nat.mod_lt _ h.pos)
  · obtain ⟨q, hq⟩ := h.reach hk hj0
    have h2 := hall q
    rw [← it_itf, hq] at h2
    have h3 := hmin k hk
    rcases Nat.lt_or_gt_of_ne hne with hlt | hlt
    · exact h.apart k j0 hlt hj0 (by omega)
    · exact h.apart j0 k hlt hk (by omega)
theorem parity_cycles {p : List Int} (hp : Vld p) : (p.length + (cyclesL p).length + invs (gn p) p.length) % 2 = 0 := by
  rw [← lows_cycles hp]; exact parity_invs _ _ hp.prm

/-! ### Lengths of cycles -/
/-- How many points the cycle of x has. -/
noncomputable def per (p : List Int) (x : Nat) : Nat := sm p.length fun y => ch (∃ k, it p k x = y)
theorem Cyc.per {p c : List Int} (h : Cyc p c) {i : Nat} (hi : i < c.length) : per p (gn c i) = c.length := by
  unfold Go.Proofs.Ytcenffndclpjoaa.per
  have h1 := smC_hits h fun _ => 1
  rw [smC, sm_const, Nat.mul_one] at h1
  rw [h1]
  refine sm_congr p.length fun y _ => ?_
  rw [Nat.mul_one]
  refine ch_congr ⟨fun ⟨k, hk⟩ => ⟨_, Nat.mod_lt _ h.pos, (h.it k hi).symm.trans hk⟩, fun ⟨j, hj, e⟩ => ?_⟩
  obtain ⟨k, hk⟩ := h.reach hi hj
  exact ⟨k, hk.trans e⟩
theorem cnt_cons (c : List Int) (cs : List (List Int)) (k : Nat) : ∀ i, cnt (c :: cs) k (i + 1) = (if c.length = k then 1 else 0) + cnt cs k i
  | 0 => by simp [cnt]
  | i + 1 => by
    have e : (c :: cs).getD (i + 1) [] = cs.getD i [] := rfl
    rw [cnt, cnt_cons c cs k i, cnt, e]; omega
theorem per_smCs {p : List Int} (k : Nat) : ∀ {cs : List (List Int)}, (∀ c, c ∈ cs → Cyc p c) → smCs (fun x => ch (per p x = k)) cs = k * cnt cs k cs.length
  | [], _ => by simp [smCs, cnt]
  | c :: cs, h => by
    have hc := h c (by simp)
    rw [smCs, per_smCs k (fun d hd => h d (by simp [hd])), List.length_cons, cnt_cons, Nat.mul_add]
    congr 1
    unfold smC
    by_cases e : c.length = k
    · rw [if_pos e, sm_congr c.length (G := fun _ => 1) (fun j hj => by show ch (per p (gn c j) = k) = 1; rw [hc.per hj]; exact ch_true e), sm_const, e]
    · rw [if_neg e, sm_congr c.length (G := fun _ => 0) (fun j hj => by show ch (per p (gn c j) = k) = 0; rw [hc.per hj]; exact ch_false e), sm_zero]; omega
theorem per_cnt {p : List Int} (hp : Vld p) (k : Nat) : sm p.length (fun x => ch (per p x = k)) = k * cnt (cyclesL p) k (cyclesL p).length := by
  rw [sum_cycles hp, per_smCs k (cyclesL_spec hp).1]
theorem fromLen_congr {cs ds : List (List Int)} : ∀ n, (∀ k, 0 < k → cnt cs k cs.length = cnt ds k ds.length) → fromLen cs n = fromLen ds n
  | 0, _ => rfl
  | n + 1, h => by rw [fromLen, fromLen, h (n + 1) (by omega), fromLen_congr n h]
/-- A renaming of the points that keeps the lengths of the cycles keeps the type. -/
theorem type_of_per {p q : List Int} (hp : Vld p) (hq : Vld q) (hl : p.length = q.length) {f : Nat → Nat} (hf : Prm p.length f) (h : ∀ x, x < p.length → per q (f x) = per p x) : typeL p = typeL q := by
  unfold typeL
  rw [hl]
  refine fromLen_congr _ fun k hk => ?_
  have h1 := per_cnt hp k
  have h2 := per_cnt hq k
  have h3 : sm p.length (fun x => ch (per p x = k)) = sm q.length (fun x => ch (per q x = k)) := by
    rw [← hl, ← sm_prm (fun x => ch (per q x = k)) p.length f hf]
    exact sm_congr p.length fun x hx => by rw [h x hx]
  rw [h3, h2] at h1
  exact Nat.eq_of_mul_eq_mul_left hk h1.symm
theorem conj_it {p b : List Int} (hp : Vld p) (hb : Vld b) (hl : p.length = b.length) {x : Nat} (hx : x < b.length) : ∀ k, it (conjL p b) k (gn b x) = gn b (it p k x)
  | 0 => rfl
  | k + 1 => by rw [it, conj_it hp hb hl hx k, conj_gn' hb (by rw [← hl]; exact it_lt hp k (by omega)), it]
theorem conj_type {p b : List Int} (hp : Vld p) (hb : Vld b) (hl : p.length = b.length) : typeL p = typeL (conjL p b) := by
  have hlen := conjL_len p b
  have hpb : Prm p.length (gn b) := by rw [hl]; exact hb.prm
  refine type_of_per hp (conj_vld hp hb hl) (by omega) hpb fun x hx => ?_
  unfold per
  rw [hlen, ← hl, ← sm_prm _ p.length _ hpb]
  refine sm_congr p.length fun y hy => ch_congr ⟨fun ⟨k, hk⟩ => ⟨k, ?_⟩, fun ⟨k, hk⟩ => ⟨k, ?_⟩⟩
  · rw [conj_it hp hb hl (by omega)] at hk
    exact hb.inj (by rw [← hl]; exact it_lt hp k hx) (by omega) hk
  · rw [conj_it hp hb hl (by omega), hk]
theorem back_reach {p : List Int} (hp : Vld p) {x y : Nat} (hx : x < p.length) (h : ∃ k, it p k x = y) : ∃ k, it (backL p) k y = x := by
  obtain ⟨k, rfl⟩ := h
  induction k with
  | zero => exact ⟨0, rfl⟩
  | succ k ih =>
    obtain ⟨q, hq⟩ := ih
    refine ⟨q + 1, ?_⟩
    rw [it_succ', it, hp.gn_backL (it_lt hp k hx)]
    exact hq
theorem reach_sym {p : List Int} (hp : Vld p) {x y : Nat} (hx : x < p.length) (h : ∃ k, it p k x = y) : ∃ k, it p k y = x := by
  obtain ⟨k, rfl⟩ := h
  obtain ⟨h1, h2, _⟩ := cyclesL_spec hp
  obtain ⟨c, hc, j, hj, rfl⟩ := h2 x hx
  have h := h1 c hc
  rw [h.it k hj]
  exact h.reach (Nat.mod_lt _ h.pos) hj
theorem back_back {p : List Int} (hp : Vld p) : backL (backL p) = p := by
  refine (hp.ext (backL_len _ |>.trans (backL_len p)) rfl fun i hi => ?_)
  have hb := backL_vld hp
  have hl := backL_len p
  have h1 := hb.gi_backL (i := gn p (gn p i)) (by rw [hl]; exact hp.gn_lt (hp.gn_lt hi))
  rw [hp.gn_backL (hp.gn_lt hi)] at h1
  rw [h1, hp.gi_gn (hp.gn_lt hi)]
theorem back_type {p : List Int} (hp : Vld p) : typeL p = typeL (backL p) := by
  have hl := backL_len p
  refine type_of_per hp (backL_vld hp) hl.symm (f := fun x => x) ⟨fun _ h => h, fun _ _ _ _ h => h⟩ fun x hx => ?_
  unfold per
  rw [hl]
  refine sm_congr p.length fun y hy => ch_congr ⟨fun h => ?_, fun h => ?_⟩
  · have h1 := back_reach (backL_vld hp) (by rw [hl]; exact hx) h
    rw [back_back hp] at h1
    exact reach_sym hp hy h1
  · exact back_reach hp hy (reach_sym hp hx h)

end Go.Proofs.Ytcenffndclpjoaa
