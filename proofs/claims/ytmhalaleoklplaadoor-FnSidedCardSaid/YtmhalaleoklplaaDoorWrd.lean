/-
  Plain: texts that are words: each letter twice; the other side of a letter. No program in sight.
-/
import Derived.Test.YtmhalaleoklplaaDoorPlain
namespace Go.Proofs.YtmhalaleoklplaaDoor

/-- Byte i of a text, 0 beyond its end. -/
def gb (l : List UInt8) (i : Nat) : UInt8 := l.getD i 0
theorem gb_eq {l : List UInt8} {i : Nat} (h : i < l.length) : gb l i = l[i] := by simp [gb, List.getD, h]
/-- The number of a letter, or -1. -/
def ltr (c : UInt8) : Int := if 97 ≤ c.toNat ∧ c.toNat < 102 then (c.toNat : Int) - 97 else if 65 ≤ c.toNat ∧ c.toNat < 70 then (c.toNat : Int) - 65 else -1
def sml (c : UInt8) : Bool := decide (97 ≤ c.toNat)
/-- How often a letter is there. -/
def ltc (l : List UInt8) (k : Int) : Nat := l.countP fun c => ltr c == k
structure Word (l : List UInt8) : Prop where
  pos : 0 < l.length
  ok : ∀ i, i < l.length → 0 ≤ ltr (gb l i) ∧ ltc l (ltr (gb l i)) = 2
def goodAt (l : List UInt8) (i : Nat) : Bool := decide (0 ≤ ltr (gb l i)) && (ltc l (ltr (gb l i)) == 2)
def wordB (l : List UInt8) : Bool := decide (0 < l.length) && (List.range l.length).all (goodAt l)
theorem wordB_iff {l : List UInt8} : wordB l = true ↔ Word l := by
  simp only [wordB, goodAt, Bool.and_eq_true, decide_eq_true_eq, List.all_eq_true, List.mem_range, beq_iff_eq]
  exact ⟨fun h => ⟨h.1, h.2⟩, fun h => ⟨h.pos, h.ok⟩⟩
theorem wordB_no {l : List UInt8} {i : Nat} (hi : i < l.length) (h : goodAt l i = false) : wordB l = false := by
  rw [wordB, Bool.and_eq_false_iff]
  exact .inr (List.all_eq_false.2 ⟨i, by simpa using hi, by simp [h]⟩)
theorem ltr_range (c : UInt8) : -1 ≤ ltr c ∧ ltr c < 5 := by unfold ltr; split <;> (try split) <;> omega
theorem ltr_eq {c d : UInt8} (h : ltr c = ltr d) (hs : sml c = sml d) (h0 : 0 ≤ ltr c) : c = d := by
  apply UInt8.toNat_inj.1
  have hs' : (97 ≤ c.toNat) ↔ (97 ≤ d.toNat) := by simpa [sml] using hs
  unfold ltr at h h0
  split at h <;> split at h <;> (try split at h) <;> (try split at h) <;> simp_all <;> omega

/-! ### Where something stands twice -/
theorem count0 {α : Type} (p : α → Bool) (d : α) : ∀ l : List α, l.countP p = 0 → ∀ k, k < l.length → p (l.getD k d) = false := by
  intro l h k hk
  rw [List.countP_eq_zero] at h
  have := h (l[k]) (List.getElem_mem hk)
  rw [show l.getD k d = l[k] from by simp [List.getD, hk]]
  simpa using this
theorem count1 {α : Type} (p : α → Bool) (d : α) : ∀ l : List α, l.countP p = 1 → ∃ i, i < l.length ∧ ∀ k, k < l.length → (p (l.getD k d) = true ↔ k = i) := by
  intro l
  induction l with
  | nil => intro h; simp at h
  | cons a r ih =>
    intro h
    rw [List.countP_cons] at h
    by_cases ha : p a = true
    · rw [if_pos ha] at h
      refine ⟨0, by simp, fun k hk => ?_⟩
      cases k with
      | zero => simp [ha]
      | succ k =>
        have := count0 p d r (by omega) k (by simpa using hk)
        rw [show (a :: r).getD (k + 1) d = r.getD k d from by simp, this]
        simp
    · rw [if_neg ha] at h
      obtain ⟨i, hi, hp⟩ := ih (by omega)
      refine ⟨i + 1, by simpa using hi, fun k hk => ?_⟩
      cases k with
      | zero => simp [ha]
      | succ k => have := hp k (by simpa using hk); simpa using this
theorem count2 {α : Type} (p : α → Bool) (d : α) : ∀ l : List α, l.countP p = 2 → ∃ i j, i < j ∧ j < l.length ∧ ∀ k, k < l.length → (p (l.getD k d) = true ↔ k = i ∨ k = j) := by
  intro l
  induction l with
  | nil => intro h; simp at h
  | cons a r ih =>
    intro h
    rw [List.countP_cons] at h
    by_cases ha : p a = true
    · rw [if_pos ha] at h
      obtain ⟨i, hi, hp⟩ := count1 p d r (by omega)
      refine ⟨0, i + 1, by omega, by simpa using hi, fun k hk => ?_⟩
      cases k with
      | zero => simp [ha]
      | succ k => have := hp k (by simpa using hk); simpa using this
    · rw [if_neg ha] at h
      obtain ⟨i, j, hij, hj, hp⟩ := ih (by omega)
      refine ⟨i + 1, j + 1, by omega, by simpa using hj, fun k hk => ?_⟩
      cases k with
      | zero => simp [ha]
      | succ k => have := hp k (by simpa using hk); simpa using this

/-- The other side with the letter of a side, or the side itself. -/
def par (l : List UInt8) (i : Nat) : Nat := ((List.range l.length).find? fun k => decide (k ≠ i) && (ltr (gb l k) == ltr (gb l i))).getD i
structure IsPar (l : List UInt8) (i k : Nat) : Prop where
  lt : k < l.length
  ne : k ≠ i
  eq : ltr (gb l k) = ltr (gb l i)
  all : ∀ j, j < l.length → ltr (gb l j) = ltr (gb l i) → j = i ∨ j = k
theorem Word.places {l : List UInt8} (h : Word l) {s : Nat} (hs : s < l.length) :
    ∃ i j, i < j ∧ j < l.length ∧ (s = i ∨ s = j) ∧ ∀ k, k < l.length → (ltr (gb l k) = ltr (gb l s) ↔ k = i ∨ k = j) := by
  obtain ⟨i, j, h1, h2, h3⟩ := count2 (fun c => ltr c == ltr (gb l s)) 0 l (h.ok s hs).2
  refine ⟨i, j, h1, h2, (h3 s hs).1 (by simp [gb]), fun k hk => ?_⟩
  have := h3 k hk
  simpa [gb] using this
theorem Word.isPar {l : List UInt8} (h : Word l) {s : Nat} (hs : s < l.length) : IsPar l s (par l s) := by
  obtain ⟨i, j, h1, h2, h3, h4⟩ := h.places hs
  have hex : ∃ k, k < l.length ∧ k ≠ s ∧ ltr (gb l k) = ltr (gb l s) := by
    rcases h3 with rfl | rfl
    · exact ⟨j, h2, by omega, (h4 j h2).2 (.inr rfl)⟩
    · exact ⟨i, by omega, by omega, (h4 i (by omega)).2 (.inl rfl)⟩
  unfold par
  cases hf : (List.range l.length).find? fun k => decide (k ≠ s) && (ltr (gb l k) == ltr (gb l s)) with
  | none =>
    rw [List.find?_eq_none] at hf
    obtain ⟨k, k1, k2, k3⟩ := hex
    exact absurd (by simp [k2, k3]) (hf k (by simpa using k1))
  | some k =>
    have e1 := List.find?_some hf
    have e2 := List.mem_of_find?_eq_some hf
    simp only [List.mem_range] at e2
    simp only [Bool.and_eq_true, decide_eq_true_eq, beq_iff_eq] at e1
    refine ⟨e2, e1.1, e1.2, fun m hm e => ?_⟩
    have a1 := (h4 m hm).1 e
    have a2 := (h4 k e2).1 e1.2
    have a3 := e1.1
    show m = s ∨ m = k
    omega
theorem IsPar.uniq {l : List UInt8} {i k k' : Nat} (h : IsPar l i k) (h' : IsPar l i k') : k = k' := by
  rcases h.all k' h'.lt h'.eq with e | e
  · exact absurd e h'.ne
  · exact e.symm
theorem IsPar.sym {l : List UInt8} {i k : Nat} (h : IsPar l i k) (hi : i < l.length) : IsPar l k i :=
  ⟨hi, fun e => h.ne e.symm, h.eq.symm, fun j hj e => (h.all j hj (e.trans h.eq)).symm⟩
theorem Word.par2 {l : List UInt8} (h : Word l) {s : Nat} (hs : s < l.length) : par l (par l s) = s :=
  (h.isPar (h.isPar hs).lt).uniq ((h.isPar hs).sym hs)

/-! ### What the program asks -/
theorem ltc_snoc (l : List UInt8) (c : UInt8) (k : Int) : ltc (l ++ [c]) k = ltc l k + if ltr c = k then 1 else 0 := by
  simp [ltc, List.countP_append, List.countP_cons]
theorem ltc_cons (l : List UInt8) (c : UInt8) (k : Int) : ltc (c :: l) k = ltc l k + if ltr c = k then 1 else 0 := by
  simp [ltc, List.countP_cons]
theorem len_sum : ∀ (l : List UInt8), (∀ c, c ∈ l → 0 ≤ ltr c) → l.length = ltc l 0 + ltc l 1 + ltc l 2 + ltc l 3 + ltc l 4 := by
  intro l
  induction l with
  | nil => intro _; rfl
  | cons c r ih =>
    intro h
    have h1 := ih (fun x hx => h x (List.mem_cons_of_mem _ hx))
    have h2 := h c (by simp)
    have h3 := ltr_range c
    simp only [ltc_cons, List.length_cons]
    have : ltr c = 0 ∨ ltr c = 1 ∨ ltr c = 2 ∨ ltr c = 3 ∨ ltr c = 4 := by omega
    rcases this with e | e | e | e | e <;> simp [e] <;> omega
theorem Word.mem {l : List UInt8} (h : Word l) {c : UInt8} (hc : c ∈ l) : 0 ≤ ltr c ∧ ltc l (ltr c) = 2 := by
  obtain ⟨i, hi, rfl⟩ := List.getElem_of_mem hc
  have := h.ok i hi
  rwa [gb_eq hi] at this
theorem Word.count {l : List UInt8} (h : Word l) (k : Int) : ltc l k = 0 ∨ ltc l k = 2 := by
  by_cases e : ltc l k = 0
  · exact .inl e
  · have : 0 < l.countP fun c => ltr c == k := by unfold ltc at e; omega
    obtain ⟨c, hc, he⟩ := List.countP_pos_iff.1 this
    have he' : ltr c = k := by simpa using he
    have := (h.mem hc).2
    rw [he'] at this
    exact .inr this
theorem Word.len {l : List UInt8} (h : Word l) : 2 ≤ l.length ∧ l.length ≤ 10 ∧ l.length % 2 = 0 := by
  have h0 := len_sum l (fun c hc => (h.mem hc).1)
  have a0 := h.count 0
  have a1 := h.count 1
  have a2 := h.count 2
  have a3 := h.count 3
  have a4 := h.count 4
  have := h.pos
  omega
/-- The program's test of letters counted. -/
def fine (l : List UInt8) (k : Int) : Bool := ltc l k == 0 || ltc l k == 2
theorem wordB_prog {l : List UInt8} (h1 : 2 ≤ l.length) (hl : ∀ c, c ∈ l → 0 ≤ ltr c) :
    wordB l = (fine l 0 && fine l 1 && fine l 2 && fine l 3 && fine l 4) := by
  rw [Bool.eq_iff_iff]
  constructor
  · intro h
    have hw := wordB_iff.1 h
    have f : ∀ k : Int, fine l k = true := fun k => by
      rcases hw.count k with e | e <;> simp [fine, e]
    simp [f]
  · intro h
    simp only [Bool.and_eq_true] at h
    obtain ⟨⟨⟨⟨f0, f1⟩, f2⟩, f3⟩, f4⟩ := h
    refine wordB_iff.2 ⟨by omega, fun i hi => ?_⟩
    rw [gb_eq hi]
    have hm := List.getElem_mem hi
    have h0 := hl _ hm
    refine ⟨h0, ?_⟩
    have hr := ltr_range l[i]
    have hp : 0 < ltc l (ltr l[i]) := List.countP_pos_iff.2 ⟨l[i], hm, by simp⟩
    have fk : fine l (ltr l[i]) = true := by
      have : ltr l[i] = 0 ∨ ltr l[i] = 1 ∨ ltr l[i] = 2 ∨ ltr l[i] = 3 ∨ ltr l[i] = 4 := by omega
      rcases this with e | e | e | e | e <;> rw [e] <;> assumption
    simp only [fine, Bool.or_eq_true, beq_iff_eq] at fk
    omega
theorem wordB_letter {l : List UInt8} {c : UInt8} (hc : c ∈ l) (h : ltr c < 0) : wordB l = false := by
  rw [Bool.eq_false_iff]
  intro e
  have := ((wordB_iff.1 e).mem hc).1
  omega
theorem wordB_short {l : List UInt8} (h : l.length < 2 ∨ 10 < l.length) : wordB l = false := by
  rw [Bool.eq_false_iff]
  intro e
  have := (wordB_iff.1 e).len
  omega

/-- The last one of the sides with the letter, and the first one. -/
theorem Word.sum {l : List UInt8} (h : Word l) {s : Nat} (hs : s < l.length) : ∃ i j, i < j ∧ j < l.length ∧ (s = i ∨ s = j) ∧ (∀ k, k < l.length → (ltr (gb l k) = ltr (gb l s) ↔ k = i ∨ k = j)) ∧ par l s + s = i + j := by
  obtain ⟨i, j, h1, h2, h3, h4⟩ := h.places hs
  refine ⟨i, j, h1, h2, h3, h4, ?_⟩
  have hp := h.isPar hs
  have := (h4 _ hp.lt).1 hp.eq
  have := hp.ne
  omega
def parL (l : List UInt8) : List Int := tab l.length fun i => (par l i : Int)
theorem parL_len (l : List UInt8) : (parL l).length = l.length := tab_len _ _
/-- Each letter once small and once large. -/
def twoAt (l : List UInt8) (i : Nat) : Bool := sml (gb l i) != sml (gb l (par l i))
def sidedB (l : List UInt8) : Bool := wordB l && (List.range l.length).all (twoAt l)
theorem sidedB_no {l : List UInt8} {i : Nat} (hi : i < l.length) (h : twoAt l i = false) : sidedB l = false := by
  rw [sidedB, Bool.and_eq_false_iff]
  exact .inr (List.all_eq_false.2 ⟨i, by simpa using hi, by simp [h]⟩)
theorem sidedB_yes {l : List UInt8} (hw : wordB l = true) (h : ∀ i, i < l.length → twoAt l i = true) : sidedB l = true := by
  rw [sidedB, hw, Bool.true_and]
  exact List.all_eq_true.2 fun i hi => h i (by simpa using hi)
def gluR (l : List UInt8) : Bool × List Int := if sidedB l = true then (true, parL l) else (false, [])
theorem gluR_len {l : List UInt8} {ok : Bool} {ys : List Int} (h : gluR l = (ok, ys)) : ys.length ≤ 12 := by
  unfold gluR at h
  split at h
  · rename_i hs
    have hw : wordB l = true := by rw [sidedB, Bool.and_eq_true] at hs; exact hs.1
    have := (wordB_iff.1 hw).len
    simp only [Prod.mk.injEq] at h
    rw [← h.2, parL_len]; omega
  · simp only [Prod.mk.injEq] at h
    rw [← h.2]; exact Nat.zero_le _

end Go.Proofs.YtmhalaleoklplaaDoor
