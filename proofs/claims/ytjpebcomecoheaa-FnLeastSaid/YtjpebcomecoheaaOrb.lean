/-
  Plain: what the cycles of a permutation are: each goes round, each point is in one of them.
-/
import Derived.Test.YtjpebcomecoheaaCycPlain
import Derived.Test.YtjpebcomecoheaaMul
namespace Go.Proofs.Ytjpebcomecoheaa

theorem mem_after {c : List Int} {vis : List Nat} {x : Nat} : x ∈ after c vis ↔ (∃ j, j < c.length ∧ gn c j = x) ∨ x ∈ vis := by
  simp only [after, List.mem_append, List.mem_reverse, List.mem_map]
  constructor
  · rintro (⟨a, ha, rfl⟩ | h)
    · obtain ⟨j, hj, rfl⟩ := List.getElem_of_mem ha
      exact .inl ⟨j, hj, by simp [gn, gi_eq hj]⟩
    · exact .inr h
  · rintro (⟨j, hj, rfl⟩ | h)
    · exact .inl ⟨c[j], List.getElem_mem hj, by simp [gn, gi_eq hj]⟩
    · exact .inr h
theorem nodup_after {c : List Int} {vis : List Nat} (h : (after c vis).Nodup) : (∀ i j, i < j → j < c.length → gn c i ≠ gn c j) ∧ ∀ j, j < c.length → gn c j ∉ vis := by
  rw [after, List.nodup_append] at h
  obtain ⟨h1, _, h3⟩ := h
  constructor
  · intro i j hij hj
    have h4 := List.pairwise_iff_getElem.1 (List.pairwise_reverse.1 h1) i j (by simp; omega) (by simpa using hj) hij
    simp only [List.getElem_map] at h4
    simp only [gn, gi_eq hj, gi_eq (show i < c.length by omega)]
    exact fun e => h4 e.symm
  · intro j hj hv
    exact h3 (gn c j) (by simp only [List.mem_reverse, List.mem_map]; exact ⟨c[j], List.getElem_mem hj, by simp [gn, gi_eq hj]⟩) _ hv rfl

theorem gi_append_left {a b : List Int} {j : Nat} (h : j < a.length) : gi (a ++ b) j = gi a j := by simp [gi, List.getD, List.getElem?_append_left h]
theorem gi_append_last {a : List Int} {x : Int} : gi (a ++ [x]) a.length = x := by simp [gi, List.getD]
theorem gn_append_left {a b : List Int} {j : Nat} (h : j < a.length) : gn (a ++ b) j = gn a j := by unfold gn; rw [gi_append_left h]
theorem gn_append_last {a : List Int} {k : Nat} : gn (a ++ [(k : Int)]) a.length = k := by unfold gn; rw [gi_append_last]; omega

/-- One cycle, found from i on where vis was marked. -/
structure Found (p : List Int) (vis : List Nat) (i : Nat) (c : List Int) : Prop where
  pos : 0 < c.length
  head : gn c 0 = i
  nat : ∀ j, j < c.length → gi c j = (gn c j : Int)
  chain : ∀ j, j + 1 < c.length → gn p (gn c j) = gn c (j + 1)
  close : gn p (gn c (c.length - 1)) = i
  nodup : (after c vis).Nodup
  lt : ∀ j, j ∈ after c vis → j < p.length

def Closed (p : List Int) (vis : List Nat) : Prop := ∀ k, k ∈ vis → ∃ k', k' ∈ vis ∧ gn p k' = k

structure Going (p : List Int) (vis : List Nat) (i : Nat) (acc : List Int) (k : Nat) : Prop where
  nat : ∀ j, j < acc.length → gi acc j = (gn acc j : Int)
  chain : ∀ j, j + 1 < acc.length → gn p (gn acc j) = gn acc (j + 1)
  start : acc.length = 0 → k = i
  next : 0 < acc.length → gn p (gn acc (acc.length - 1)) = k ∧ gn acc 0 = i
  nodup : (after acc vis).Nodup
  lt : ∀ j, j ∈ after acc vis → j < p.length
  klt : k < p.length

theorem going_found {p : List Int} {vis : List Nat} {i : Nat} (hp : Vld p) (hc : Closed p vis) (hi : i ∉ vis) : ∀ (f : Nat) (acc : List Int) (k : Nat), 13 ≤ f + (after acc vis).length → Going p vis i acc k →
    Found p vis i (acc ++ cycFrom p f (after acc vis) k) := by
  intro f
  induction f with
  | zero =>
    intro acc k hf hg
    have := nodup_len p.length _ hg.nodup hg.lt
    have := hp.2.1
    omega
  | succ f ih =>
    intro acc k hf hg
    by_cases hk : k ∈ after acc vis
    · have e : cycFrom p (f + 1) (after acc vis) k = [] := by rw [cycFrom, if_pos hk]
      rw [e, List.append_nil]
      have hpos : 0 < acc.length := by
        rcases Nat.eq_zero_or_pos acc.length with h0 | h0
        · have h1 := hg.start h0
          have h2 : acc = [] := List.eq_nil_of_length_eq_zero h0
          rw [h2, after_nil, h1] at hk
          exact absurd hk hi
        · exact h0
      obtain ⟨hn1, hn2⟩ := hg.next hpos
      obtain ⟨hd1, hd2⟩ := nodup_after hg.nodup
      have hlast : gn acc (acc.length - 1) < p.length := hg.lt _ (mem_after.2 (.inl ⟨_, by omega, rfl⟩))
      have hki : k = i := by
        rcases mem_after.1 hk with ⟨j, hj, hjk⟩ | hv
        · rcases Nat.eq_zero_or_pos j with h0 | h0
          · subst h0; rw [← hjk]; exact hn2
          · have h1 := hg.chain (j - 1) (by omega)
            rw [show j - 1 + 1 = j from by omega, hjk, ← hn1] at h1
            have h2 := hp.inj (hg.lt _ (mem_after.2 (.inl ⟨j - 1, by omega, rfl⟩))) hlast h1
            exact absurd h2 (hd1 (j - 1) (acc.length - 1) (by omega) (by omega))
        · obtain ⟨k', hk', he⟩ := hc k hv
          have h2 := hp.inj (hg.lt _ (mem_after.2 (.inr hk'))) hlast (he.trans hn1.symm)
          rw [h2] at hk'
          exact absurd hk' (hd2 _ (by omega))
      exact ⟨hpos, hn2, hg.nat, hg.chain, hn1.trans hki, hg.nodup, hg.lt⟩
    · have e : cycFrom p (f + 1) (after acc vis) k = (k : Int) :: cycFrom p f (k :: after acc vis) (gn p k) := by rw [cycFrom, if_neg hk]
      have ha := after_snoc acc k vis
      rw [e, ← ha, show acc ++ (k : Int) :: cycFrom p f (after (acc ++ [(k : Int)]) vis) (gn p k) = (acc ++ [(k : Int)]) ++ cycFrom p f (after (acc ++ [(k : Int)]) vis) (gn p k) from by simp]
      refine ih _ _ (by rw [ha]; simp only [List.length_cons]; omega) ⟨fun j hj => ?_, fun j hj => ?_, fun h => by simp at h, fun _ => ⟨?_, ?_⟩, ?_, fun j hj => ?_, hp.gn_lt hg.klt⟩
      · simp only [List.length_append, List.length_cons, List.length_nil] at hj
        by_cases h : j < acc.length
        · rw [gi_append_left h, gn_append_left h]; exact hg.nat j h
        · have : j = acc.length := by omega
          subst this
          rw [gi_append_last, gn_append_last]
      · simp only [List.length_append, List.length_cons, List.length_nil] at hj
        by_cases h : j + 1 < acc.length
        · rw [gn_append_left h, gn_append_left (by omega)]; exact hg.chain j h
        · have : acc.length = j + 1 := by omega
          rw [gn_append_left (by omega), ← this, gn_append_last]
          have := (hg.next (by omega)).1
          rw [show acc.length - 1 = j from by omega] at this
          exact this
      · simp only [List.length_append, List.length_cons, List.length_nil, Nat.add_sub_cancel]
        rw [gn_append_last]
      · rcases Nat.eq_zero_or_pos acc.length with h0 | h0
        · have h1 := hg.start h0
          have h2 : acc = [] := List.eq_nil_of_length_eq_zero h0
          subst h2
          rw [h1]; simp [gn, gi]
        · rw [gn_append_left h0]; exact (hg.next h0).2
      · rw [ha]; exact List.nodup_cons.2 ⟨hk, hg.nodup⟩
      · rw [ha] at hj
        rcases List.mem_cons.1 hj with rfl | hj
        · exact hg.klt
        · exact hg.lt j hj

theorem cycFrom_found {p : List Int} {vis : List Nat} {i : Nat} (hp : Vld p) (hn : vis.Nodup) (hl : ∀ j, j ∈ vis → j < p.length) (hc : Closed p vis) (hi : i ∉ vis) (hip : i < p.length) : Found p vis i (cycFrom p 13 vis i) := by
  have := going_found hp hc hi 13 [] i (by omega) ⟨fun j hj => absurd hj (by simp), fun j hj => absurd hj (by simp), fun _ => rfl, fun h => absurd h (by simp), hn, hl, hip⟩
  rwa [after_nil, List.nil_append] at this
theorem Found.closed {p : List Int} {vis : List Nat} {i : Nat} {c : List Int} (h : Found p vis i c) (hc : Closed p vis) : Closed p (after c vis) := by
  intro k hk
  rcases mem_after.1 hk with ⟨j, hj, rfl⟩ | hv
  · rcases Nat.eq_zero_or_pos j with h0 | h0
    · subst h0
      exact ⟨gn c (c.length - 1), mem_after.2 (.inl ⟨_, by omega, rfl⟩), by rw [h.head]; exact h.close⟩
    · exact ⟨gn c (j - 1), mem_after.2 (.inl ⟨_, by omega, rfl⟩), by have := h.chain (j - 1) (by omega); rw [show j - 1 + 1 = j from by omega] at this; exact this⟩
  · obtain ⟨k', h1, h2⟩ := hc k hv
    exact ⟨k', mem_after.2 (.inr h1), h2⟩

/-- A cycle. -/
structure Cyc (p : List Int) (c : List Int) : Prop where
  pos : 0 < c.length
  nat : ∀ j, j < c.length → gi c j = (gn c j : Int)
  lt : ∀ j, j < c.length → gn c j < p.length
  round : ∀ j, j < c.length → gn p (gn c j) = gn c ((j + 1) % c.length)
  apart : ∀ i j, i < j → j < c.length → gn c i ≠ gn c j
theorem Found.cyc {p : List Int} {vis : List Nat} {i : Nat} {c : List Int} (h : Found p vis i c) : Cyc p c :=
  ⟨h.pos, h.nat, fun j hj => h.lt _ (mem_after.2 (.inl ⟨j, hj, rfl⟩)), fun j hj => by
    by_cases e : j + 1 < c.length
    · rw [Nat.mod_eq_of_lt e]; exact h.chain j e
    · have e1 : j + 1 = c.length := by omega
      rw [e1, Nat.mod_self, h.head]
      have := h.close
      rw [show c.length - 1 = j from by omega] at this
      exact this, (nodup_after h.nodup).1⟩

def inC (c : List Int) (x : Nat) : Prop := ∃ j, j < c.length ∧ gn c j = x
theorem cycAll_spec {p : List Int} (hp : Vld p) : ∀ (is : List Nat) (vis : List Nat), vis.Nodup → (∀ j, j ∈ vis → j < p.length) → Closed p vis → (∀ i, i ∈ is → i < p.length) →
    (∀ c, c ∈ cycAll p is vis → Cyc p c ∧ ∀ x, inC c x → x ∉ vis) ∧ (∀ i, i ∈ is → i ∈ vis ∨ ∃ c, c ∈ cycAll p is vis ∧ inC c i) ∧ (cycAll p is vis).Pairwise (fun c d => ∀ x, inC c x → ¬ inC d x) := by
  intro is
  induction is with
  | nil => intro vis _ _ _ _; simp [cycAll]
  | cons i is ih =>
    intro vis hn hl hc hi
    rw [cycAll]
    by_cases hv : i ∈ vis
    · rw [if_pos hv]
      obtain ⟨h1, h2, h3⟩ := ih vis hn hl hc (fun j hj => hi j (List.mem_cons_of_mem _ hj))
      refine ⟨h1, fun j hj => ?_, h3⟩
      rcases List.mem_cons.1 hj with rfl | hj
      · exact .inl hv
      · exact h2 j hj
    · rw [if_neg hv]
      have hf := cycFrom_found hp hn hl hc hv (hi i (by simp))
      obtain ⟨h1, h2, h3⟩ := ih (after (cycFrom p 13 vis i) vis) hf.nodup hf.lt (hf.closed hc) (fun j hj => hi j (List.mem_cons_of_mem _ hj))
      refine ⟨fun c hcm => ?_, fun j hj => ?_, List.pairwise_cons.2 ⟨fun d hd x hx hx' => ?_, h3⟩⟩
      · rcases List.mem_cons.1 hcm with rfl | hcm
        · exact ⟨hf.cyc, fun x ⟨j, hj, hx⟩ => by rw [← hx]; exact (nodup_after hf.nodup).2 j hj⟩
        · exact ⟨(h1 c hcm).1, fun x hx hxv => (h1 c hcm).2 x hx (mem_after.2 (.inr hxv))⟩
      · rcases List.mem_cons.1 hj with rfl | hj
        · exact .inr ⟨_, List.mem_cons_self, 0, hf.pos, hf.head⟩
        · rcases h2 j hj with h | ⟨c, hcm, hx⟩
          · rcases mem_after.1 h with ⟨q, hq, e⟩ | h
            · exact .inr ⟨_, List.mem_cons_self, q, hq, e⟩
            · exact .inl h
          · exact .inr ⟨c, List.mem_cons_of_mem _ hcm, hx⟩
      · obtain ⟨j, hj, e⟩ := hx
        exact (h1 d hd).2 x hx' (mem_after.2 (.inl ⟨j, hj, e⟩))
theorem cyclesL_spec {p : List Int} (hp : Vld p) : (∀ c, c ∈ cyclesL p → Cyc p c) ∧ (∀ i, i < p.length → ∃ c, c ∈ cyclesL p ∧ inC c i) ∧ (cyclesL p).Pairwise (fun c d => ∀ x, inC c x → ¬ inC d x) := by
  obtain ⟨h1, h2, h3⟩ := cycAll_spec hp (List.range' 0 p.length) [] List.nodup_nil (fun j hj => by cases hj) (fun k hk => by cases hk) (fun i hi => by
    rw [List.mem_range'] at hi
    obtain ⟨q, hq, rfl⟩ := hi
    omega)
  refine ⟨fun c hc => (h1 c hc).1, fun i hi => ?_, h3⟩
  rcases h2 i (by rw [List.mem_range']; exact ⟨i, hi, by omega⟩) with h | h
  · cases h
  · exact h

/-! ### Going along p k times -/
def it (p : List Int) : Nat → Nat → Nat
  | 0, x => x
  | k + 1, x => gn p (it p k x)
theorem it_lt {p : List Int} (hp : Vld p) : ∀ (k : Nat) {x : Nat}, x < p.length → it p k x < p.length := by
  intro k
  induction k with
  | zero => intro x hx; exact hx
  | succ k ih => intro x hx; exact hp.gn_lt (ih hx)
theorem Cyc.it {p c : List Int} (h : Cyc p c) : ∀ (k : Nat) {j : Nat}, j < c.length → it p k (gn c j) = gn c ((j + k) % c.length) := by
  intro k
  induction k with
  | zero => intro j hj; rw [Nat.add_zero, Nat.mod_eq_of_lt hj]; rfl
  | succ k ih =>
    intro j hj
    rw [Go.Proofs.Ytjpebcomecoheaa.it, ih hj, h.round _ (Nat.mod_lt _ h.pos)]
    congr 1
    rw [Nat.mod_add_mod, Nat.add_assoc]
theorem Cyc.back {p c : List Int} (hp : Vld p) (h : Cyc p c) {j : Nat} (hj : j < c.length) : gn (backL p) (gn c ((j + 1) % c.length)) = gn c j := by
  rw [← h.round j hj]
  exact hp.gn_backL (h.lt j hj)
theorem backL_vld {p : List Int} (h : Vld p) : Vld (backL p) := by
  have hl := backL_len p
  refine ⟨by rw [hl]; exact h.1, by rw [hl]; exact h.2.1, fun j hj => ?_, fun j hj i hij e => ?_⟩
  · rw [hl] at hj ⊢
    obtain ⟨i, hi, rfl⟩ := h.surj hj
    rw [h.gi_backL hi]
    exact ⟨Int.natCast_nonneg _, by omega⟩
  · rw [hl] at hj
    obtain ⟨a, ha, rfl⟩ := h.surj hj
    obtain ⟨b, hb, rfl⟩ := h.surj (show i < p.length by omega)
    rw [h.gi_backL ha, h.gi_backL hb] at e
    have : a = b := by omega
    subst this
    omega
theorem Cyc.itBack {p c : List Int} (hp : Vld p) (h : Cyc p c) : ∀ (k : Nat) {j : Nat}, j < c.length → Go.Proofs.Ytjpebcomecoheaa.it (backL p) k (gn c ((j + k) % c.length)) = gn c j := by
  intro k
  induction k with
  | zero => intro j hj; rw [Nat.add_zero, Nat.mod_eq_of_lt hj]; rfl
  | succ k ih =>
    intro j hj
    have h1 := ih (j := (j + 1) % c.length) (Nat.mod_lt _ h.pos)
    rw [Nat.mod_add_mod, show j + 1 + k = j + (k + 1) from by omega] at h1
    rw [Go.Proofs.Ytjpebcomecoheaa.it, h1, h.back hp hj]

/-- The power: k steps along p, or -k steps back. -/
def powAt (p : List Int) (k : Int) (x : Nat) : Nat := if k < 0 then it (backL p) (-k).toNat x else it p k.toNat x
def powL (p : List Int) (k : Int) : List Int := tab p.length fun x => (powAt p k x : Int)
theorem powL_len (p : List Int) (k : Int) : (powL p k).length = p.length := tab_len _ _
/-- The step that the program takes along a cycle of n points. -/
def stepOf (k n : Int) : Int := (k.tmod n + n).tmod n
theorem stepOf_eq {k n : Int} (hn : 0 < n) : stepOf k n = k % n := by
  unfold stepOf
  have h1 : 0 ≤ k.tmod n + n := by have := Int.tmod_lt_of_pos k hn; have := Int.lt_tmod_of_pos k hn; omega
  rw [Int.tmod_eq_emod_of_nonneg h1]
  rw [Int.add_emod_right]
  have h2 := Int.tmod_add_mul_tdiv k n
  conv => rhs; rw [← h2]
  rw [Int.add_mul_emod_self_left]
theorem Cyc.pow {p c : List Int} (hp : Vld p) (h : Cyc p c) (k : Int) {j : Nat} (hj : j < c.length) : powAt p k (gn c j) = gn c ((j + (stepOf k c.length).toNat) % c.length) := by
  have hL : (0 : Int) < c.length := by have := h.pos; omega
  rw [stepOf_eq hL]
  unfold powAt
  split
  · rename_i hk
    -- the place q from which -k steps forward lead to j
    obtain ⟨q, hq⟩ : ∃ q : Nat, q = (j + (k % (c.length : Int)).toNat) % c.length := ⟨_, rfl⟩
    have hq1 : q < c.length := by rw [hq]; exact Nat.mod_lt _ h.pos
    have h1 := h.itBack hp (-k).toNat (j := q) hq1
    have h2 : (q + (-k).toNat) % c.length = j := by
      have e : (((q + (-k).toNat) % c.length : Nat) : Int) = (j : Int) := by
        rw [hq]
        have h3 : (0 : Int) ≤ k % (c.length : Int) := Int.emod_nonneg _ (by omega)
        rw [Int.natCast_emod, Int.natCast_add, Int.natCast_emod, Int.natCast_add, Int.toNat_of_nonneg h3, Int.toNat_of_nonneg (by omega), Int.emod_add_emod]
        have h4 : (j : Int) + k % (c.length : Int) + -k = (j : Int) + (c.length : Int) * (-(k / (c.length : Int))) := by
          have := Int.emod_add_mul_ediv k (c.length : Int)
          rw [Int.mul_neg]
          omega
        rw [h4, Int.add_mul_emod_self_left]
        exact Int.emod_eq_of_lt (by omega) (by omega)
      omega
    rw [h2] at h1
    rw [h1, hq]
  · rename_i hk
    rw [h.it k.toNat hj]
    congr 1
    have e : (((j + k.toNat) % c.length : Nat) : Int) = (((j + (k % (c.length : Int)).toNat) % c.length : Nat) : Int) := by
      have h3 : (0 : Int) ≤ k % (c.length : Int) := Int.emod_nonneg _ (by omega)
      rw [Int.natCast_emod, Int.natCast_add, Int.natCast_emod, Int.natCast_add, Int.toNat_of_nonneg h3, Int.toNat_of_nonneg (by omega), Int.add_emod_emod]
    exact Int.ofNat.inj e
/-- What the model multiplies together. -/
def iterL (p : List Int) (k : Nat) : List Int := tab p.length fun x => (it p k x : Int)
theorem iterL_len (p : List Int) (k : Nat) : (iterL p k).length = p.length := tab_len _ _
theorem iterL_succ {p : List Int} (hp : Vld p) (k : Nat) : mulL (iterL p k) p = iterL p (k + 1) := by
  refine tab_ext (by rw [mulL_len, iterL_len]) fun j hj => ?_
  have e : gn (iterL p k) j = it p k j := gn_of (gi_tab hj)
  rw [gi_mulL (by rw [iterL_len]; exact hj), e, hp.gi_gn (it_lt hp k hj)]
  rfl
theorem iterL_into {p : List Int} (hp : Vld p) (k : Nat) {n : Nat} (hn : p.length = n) : Into (iterL p k) n := fun j hj => by
  rw [iterL_len] at hj
  rw [iterL, gi_tab hj]
  have := it_lt hp k hj
  omega
theorem powL_nonneg {p : List Int} {k : Int} (hk : 0 ≤ k) : powL p k = iterL p k.toNat := by
  unfold powL iterL
  congr 1
  funext x
  rw [powAt, if_neg (by omega)]
theorem powL_neg {p : List Int} {k : Int} (hk : k < 0) : powL p k = iterL (backL p) (-k).toNat := by
  unfold powL iterL
  rw [backL_len]
  congr 1
  funext x
  rw [powAt, if_pos hk]
def powR (p : List Int) (k : Int) : Bool × List Int := if vld p = true ∧ -1000 ≤ k ∧ k ≤ 1000 then (true, powL p k) else (false, [])
theorem powR_len {p ys : List Int} {k : Int} {ok : Bool} (h : powR p k = (ok, ys)) : ys.length ≤ 12 := by
  unfold powR at h
  split at h
  · rename_i hb
    injection h with _ h; rw [← h, powL_len]; exact (Vld_of hb.1).2.1
  · injection h with _ h; rw [← h]; simp

theorem cycFrom_short (p : List Int) : ∀ (f : Nat) (vis : List Nat) (k : Nat), (cycFrom p f vis k).length ≤ f := by
  intro f
  induction f with
  | zero => intro vis k; simp [cycFrom]
  | succ f ih =>
    intro vis k
    rw [cycFrom]
    split
    · simp
    · simpa using ih _ _
theorem cyclesL_short {p c : List Int} (h : c ∈ cyclesL p) : c.length ≤ 13 := by
  have key : ∀ (is : List Nat) (vis : List Nat), c ∈ cycAll p is vis → c.length ≤ 13 := by
    intro is
    induction is with
    | nil => intro vis h; simp [cycAll] at h
    | cons i is ih =>
      intro vis h
      rw [cycAll] at h
      split at h
      · exact ih _ h
      · rcases List.mem_cons.1 h with rfl | h
        · exact cycFrom_short _ _ _ _
        · exact ih _ h
  exact key _ _ h
/-- The points of the cycles pre have got their images. -/
def Moved (k : Int) (zs : List Int) (pre : List (List Int)) : Prop := ∀ c, c ∈ pre → ∀ j, j < c.length → gi zs (gn c j) = gi c ((j + (stepOf k c.length).toNat) % c.length)
theorem prefix_last {pre xs : List (List Int)} {x : List Int} (h : pre ++ [x] <+: xs) (hp : xs.Pairwise (fun c d => ∀ y, inC c y → ¬ inC d y)) : x ∈ xs ∧ ∀ c, c ∈ pre → ∀ y, inC c y → ¬ inC x y := by
  obtain ⟨r, hr⟩ := h
  subst hr
  refine ⟨by simp, fun c hc y hy hx => ?_⟩
  have h1 := (List.pairwise_append.1 hp).1
  exact (List.pairwise_append.1 h1).2.2 c hc x (by simp) y hy hx
theorem moved_all {p zs : List Int} {k : Int} (hp : Vld p) (hl : zs.length = p.length) (hm : Moved k zs (cyclesL p)) : zs = powL p k := by
  obtain ⟨h1, h2, _⟩ := cyclesL_spec hp
  refine tab_ext hl fun x hx => ?_
  obtain ⟨c, hc, j, hj, rfl⟩ := h2 x hx
  have hcy := h1 c hc
  rw [hm c hc j hj, hcy.pow hp k hj, hcy.nat _ (Nat.mod_lt _ hcy.pos)]

end Go.Proofs.Ytjpebcomecoheaa
