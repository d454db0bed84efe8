/-
  Plain: texts that are words: each letter twice; the other side of a letter. No program in sight.
  Plain: what is done with words: turned, read back, renamed, joined, cut. No program in sight.
  Plain: words turned, read back, renamed, joined are words; a word without its first letter is none.
-/
import Derived.Test.YtfdliekhlcbkcaaDoorPlain
namespace Go.Proofs.YtfdliekhlcbkcaaDoor

/-- Byte i of a text, 0 beyond its end. -/
def gb (l : List UInt8) (i : Nat) : UInt8 := l.getD i 0
theorem gb_eq {l : List UInt8} {i : Nat} (h : i < l.length) : gb l i = l[i] := by simp [gb, List.getD, h]
/-- The number of a letter, or -1. -/
def ltr (c : UInt8) : Int := if 97 ≤ c.toNat ∧ c.toNat < 102 then (c.toNat : Int) - 97 else if 65 ≤ c.toNat ∧ c.toNat < 70 then (c.toNat : Int) - 65 else -1
def sml (c : UInt8) : Bool := decide (97 ≤ c.toNat)
/-- How often a letter is there. -/
def ltc (l : List UInt8) (k : Int) : Nat := l.countP fun c => ltr c == k
structure Word (l : List UInt8) : Prop where
  pos : 0 < l.length
  ok : ∀ i, i < l.length → 0 ≤ ltr (gb l i) ∧ ltc l (ltr (gb l i)) = 2
def goodAt (l : List UInt8) (i : Nat) : Bool := decide (0 ≤ ltr (gb l i)) && (ltc l (ltr (gb l i)) == 2)
def wordB (l : List UInt8) : Bool := decide (0 < l.length) && (List.range l.length).all (goodAt l)
theorem wordB_iff {l : List UInt8} : wordB l = true ↔ Word l := by
  simp only [wordB, goodAt, Bool.and_eq_true, decide_eq_true_eq, List.all_eq_true, List.mem_range, beq_iff_eq]
  exact ⟨fun h => ⟨h.1, h.2⟩, fun h => ⟨h.pos, h.ok⟩⟩
theorem wordB_no {l : List UInt8} {i : Nat} (hi : i < l.length) (h : goodAt l i = false) : wordB l = false := by
  rw [wordB, Bool.and_eq_false_iff]
  exact .inr (List.all_eq_false.2 ⟨i, by simpa using hi, by simp [h]⟩)
theorem ltr_range (c : UInt8) : -1 ≤ ltr c ∧ ltr c < 5 := by unfold ltr; split <;> (try split) <;> omega
theorem ltr_eq {c d : UInt8} (h : ltr c = ltr d) (hs : sml c = sml d) (h0 : 0 ≤ ltr c) : c = d := by
  apply UInt8.toNat_inj.1
  have hs' : (97 ≤ c.toNat) ↔ (97 ≤ d.toNat) := by simpa [sml] using hs
  unfold ltr at h h0
  split at h <;> split at h <;> (try split at h) <;> (try split at h) <;> simp_all <;> omega

/-! ### Where something stands twice -/
theorem count0 {α : Type} (p : α → Bool) (d : α) : ∀ l : List α, l.countP p = 0 → ∀ k, k < l.length → p (l.getD k d) = false := by
  intro l h k hk
  rw [List.countP_eq_zero] at h
  have := h (l[k]) (List.getElem_mem hk)
  rw [show l.getD k d = l[k] from by simp [List.getD, hk]]
  simpa using this
theorem count1 {α : Type} (p : α → Bool) (d : α) : ∀ l : List α, l.countP p = 1 → ∃ i, i < l.length ∧ ∀ k, k < l.length → (p (l.getD k d) = true ↔ k = i) := by
  intro l
  induction l with
  | nil => intro h; simp at h
  | cons a r ih =>
    intro h
    rw [List.countP_cons] at h
    by_cases ha : p a = true
    · rw [if_pos ha] at h
      refine ⟨0, by simp, fun k hk => ?_⟩
      cases k with
      | zero => simp [ha]
      | succ k =>
        have := count0 p d r (by omega) k (by simpa using hk)
        rw [show (a :: r).getD (k + 1) d = r.getD k d from by simp, this]
        simp
    · rw [if_neg ha] at h
      obtain ⟨i, hi, hp⟩ := ih (by omega)
      refine ⟨i + 1, by simpa using hi, fun k hk => ?_⟩
      cases k with
      | zero => simp [ha]
      | succ k => have := hp k (by simpa using hk); simpa using this
theorem count2 {α : Type} (p : α → Bool) (d : α) : ∀ l : List α, l.countP p = 2 → ∃ i j, i < j ∧ j < l.length ∧ ∀ k, k < l.length → (p (l.getD k d) = true ↔ k = i ∨ k = j) := by
  intro l
  induction l with
  | nil => intro h; simp at h
  | cons a r ih =>
    intro h
    rw [List.countP_cons] at h
    by_cases ha : p a = true
    · rw [if_pos ha] at h
      obtain ⟨i, hi, hp⟩ := count1 p d r (by omega)
      refine ⟨0, i + 1, by omega, by simpa using hi, fun k hk => ?_⟩
      cases k with
      | zero => simp [ha]
      | succ k => have := hp k (by simpa using hk); simpa using this
    · rw [if_neg ha] at h
      obtain ⟨i, j, hij, hj, hp⟩ := ih (by omega)
      refine ⟨i + 1, j + 1, by omega, by simpa using hj, fun k hk => ?_⟩
      cases k with
      | zero => simp [ha]
      | succ k => have := hp k (by simpa using hk); simpa using this

/-- The other side with the letter of a side, or the side itself. -/
def par (l : List UInt8) (i : Nat) : Nat := ((List.range l.length).find? fun k => decide (k ≠ i) && (ltr (gb l k) == ltr (gb l i))).getD i
structure IsPar (l : List UInt8) (i k : Nat) : Prop where
  lt : k < l.length
  ne : k ≠ i
  eq : ltr (gb l k) = ltr (gb l i)
  all : ∀ j, j < l.length → ltr (gb l j) = ltr (gb l i) → j = i ∨ j = k
theorem Word.places {l : List UInt8} (h : Word l) {s : Nat} (hs : s < l.length) :
    ∃ i j, i < j ∧ j < l.length ∧ (s = i ∨ s = j) ∧ ∀ k, k < l.length → (ltr (gb l k) = ltr (gb l s) ↔ k = i ∨ k = j) := by
  obtain ⟨i, j, h1, h2, h3⟩ := count2 (fun c => ltr c == ltr (gb l s)) 0 l (h.ok s hs).2
  refine ⟨i, j, h1, h2, (h3 s hs).1 (by simp [gb]), fun k hk => ?_⟩
  have := h3 k hk
  simpa [gb] using this
theorem Word.isPar {l : List UInt8} (h : Word l) {s : Nat} (hs : s < l.length) : IsPar l s (par l s) := by
  obtain ⟨i, j, h1, h2, h3, h4⟩ := h.places hs
  have hex : ∃ k, k < l.length ∧ k ≠ s ∧ ltr (gb l k) = ltr (gb l s) := by
    rcases h3 with rfl | rfl
    · exact ⟨j, h2, by omega, (h4 j h2).2 (.inr rfl)⟩
    · exact ⟨i, by omega, by omega, (h4 i (by omega)).2 (.inl rfl)⟩
  unfold par
  cases hf : (List.range l.length).find? fun k => decide (k ≠ s) && (ltr (gb l k) == ltr (gb l s)) with
  | none =>
    rw [List.find?_eq_none] at hf
    obtain ⟨k, k1, k2, k3⟩ := hex
    exact absurd (by simp [k2, k3]) (hf k (by simpa using k1))
  | some k =>
    have e1 := List.find?_some hf
    have e2 := List.mem_of_find?_eq_some hf
    simp only [List.mem_range] at e2
    simp only [Bool.and_eq_true, decide_eq_true_eq, beq_iff_eq] at e1
    refine ⟨e2, e1.1, e1.2, fun m hm e => ?_⟩
    have a1 := (h4 m hm).1 e
    have a2 := (h4 k e2).1 e1.2
    have a3 := e1.1
    show m = s ∨ m = k
    omega
theorem IsPar.uniq {l : List UInt8} {i k k' : Nat} (h : IsPar l i k) (h' : IsPar l i k') : k = k' := by
  rcases h.all k' h'.lt h'.eq with e | e
  · exact absurd e h'.ne
  · exact e.symm
theorem IsPar.sym {l : List UInt8} {i k : Nat} (h : IsPar l i k) (hi : i < l.length) : IsPar l k i :=
  ⟨hi, fun e => h.ne e.symm, h.eq.symm, fun j hj e => (h.all j hj (e.trans h.eq)).symm⟩
theorem Word.par2 {l : List UInt8} (h : Word l) {s : Nat} (hs : s < l.length) : par l (par l s) = s :=
  (h.isPar (h.isPar hs).lt).uniq ((h.isPar hs).sym hs)

/-! ### What the program asks -/
theorem ltc_snoc (l : List UInt8) (c : UInt8) (k : Int) : ltc (l ++ [c]) k = ltc l k + if ltr c = k then 1 else 0 := by
  simp [ltc, List.countP_append, List.countP_cons]
theorem ltc_cons (l : List UInt8) (c : UInt8) (k : Int) : ltc (c :: l) k = ltc l k + if ltr c = k then 1 else 0 := by
  simp [ltc, List.countP_cons]
theorem len_sum : ∀ (l : List UInt8), (∀ c, c ∈ l → 0 ≤ ltr c) → l.length = ltc l 0 + ltc l 1 + ltc l 2 + ltc l 3 + ltc l 4 := by
  intro l
  induction l with
  | nil => intro _; rfl
  | cons c r ih =>
    intro h
    have h1 := ih (fun x hx => h x (List.mem_cons_of_mem _ hx))
    have h2 := h c (by simp)
    have h3 := ltr_range c
    simp only [ltc_cons, List.length_cons]
    have : ltr c = 0 ∨ ltr c = 1 ∨ ltr c = 2 ∨ ltr c = 3 ∨ ltr c = 4 := by omega
    rcases this with e | e | e | e | e <;> simp [e] <;> omega
theorem Word.mem {l : List UInt8} (h : Word l) {c : UInt8} (hc : c ∈ l) : 0 ≤ ltr c ∧ ltc l (ltr c) = 2 := by
  obtain ⟨i, hi, rfl⟩ := List.getElem_of_mem hc
  have := h.ok i hi
  rwa [gb_eq hi] at this
theorem Word.count {l : List UInt8} (h : Word l) (k : Int) : ltc l k = 0 ∨ ltc l k = 2 := by
  by_cases e : ltc l k = 0
  · exact .inl e
  · have : 0 < l.countP fun c => ltr c == k := by unfold ltc at e; omega
    obtain ⟨c, hc, he⟩ := List.countP_pos_iff.1 this
    have he' : ltr c = k := by simpa using he
    have := (h.mem hc).2
    rw [he'] at this
    exact .inr this
theorem Word.len {l : List UInt8} (h : Word l) : 2 ≤ l.length ∧ l.length ≤ 10 ∧ l.length % 2 = 0 := by
  have h0 := len_sum l (fun c hc => (h.mem hc).1)
  have a0 := h.count 0
  have a1 := h.count 1
  have a2 := h.count 2
  have a3 := h.count 3
  have a4 := h.count 4
  have := h.pos
  omega
/-- The program's test of letters counted. -/
def fine (l : List UInt8) (k : Int) : Bool := ltc l k == 0 || ltc l k == 2
theorem wordB_prog {l : List UInt8} (h1 : 2 ≤ l.length) (hl : ∀ c, c ∈ l → 0 ≤ ltr c) :
    wordB l = (fine l 0 && fine l 1 && fine l 2 && fine l 3 && fine l 4) := by
  rw [Bool.eq_iff_iff]
  constructor
  · intro h
    have hw := wordB_iff.1 h
    have f : ∀ k : Int, fine l k = true := fun k => by
      rcases hw.count k with e | e <;> simp [fine, e]
    simp [f]
  · intro h
    simp only [Bool.and_eq_true] at h
    obtain ⟨⟨⟨⟨f0, f1⟩, f2⟩, f3⟩, f4⟩ := h
    refine wordB_iff.2 ⟨by omega, fun i hi => ?_⟩
    rw [gb_eq hi]
    have hm := List.getElem_mem hi
    have h0 := hl _ hm
    refine ⟨h0, ?_⟩
    have hr := ltr_range l[i]
    have hp : 0 < ltc l (ltr l[i]) := List.countP_pos_iff.2 ⟨l[i], hm, by simp⟩
    have fk : fine l (ltr l[i]) = true := by
      have : ltr l[i] = 0 ∨ ltr l[i] = 1 ∨ ltr l[i] = 2 ∨ ltr l[i] = 3 ∨ ltr l[i] = 4 := by omega
      rcases this with e | e | e | e | e <;> rw [e] <;> assumption
    simp only [fine, Bool.or_eq_true, beq_iff_eq] at fk
    omega
theorem wordB_letter {l : List UInt8} {c : UInt8} (hc : c ∈ l) (h : ltr c < 0) : wordB l = false := by
  rw [Bool.eq_false_iff]
  intro e
  have := ((wordB_iff.1 e).mem hc).1
  omega
theorem wordB_short {l : List UInt8} (h : l.length < 2 ∨ 10 < l.length) : wordB l = false := by
  rw [Bool.eq_false_iff]
  intro e
  have := (wordB_iff.1 e).len
  omega

/-- The last one of the sides with the letter, and the first one. -/
theorem Word.sum {l : List UInt8} (h : Word l) {s : Nat} (hs : s < l.length) : ∃ i j, i < j ∧ j < l.length ∧ (s = i ∨ s = j) ∧ (∀ k, k < l.length → (ltr (gb l k) = ltr (gb l s) ↔ k = i ∨ k = j)) ∧ par l s + s = i + j := by
  obtain ⟨i, j, h1, h2, h3, h4⟩ := h.places hs
  refine ⟨i, j, h1, h2, h3, h4, ?_⟩
  have hp := h.isPar hs
  have := (h4 _ hp.lt).1 hp.eq
  have := hp.ne
  omega
def parL (l : List UInt8) : List Int := tab l.length fun i => (par l i : Int)
theorem parL_len (l : List UInt8) : (parL l).length = l.length := tab_len _ _
/-- Each letter once small and once large. -/
def twoAt (l : List UInt8) (i : Nat) : Bool := sml (gb l i) != sml (gb l (par l i))
def sidedB (l : List UInt8) : Bool := wordB l && (List.range l.length).all (twoAt l)
theorem sidedB_no {l : List UInt8} {i : Nat} (hi : i < l.length) (h : twoAt l i = false) : sidedB l = false := by
  rw [sidedB, Bool.and_eq_false_iff]
  exact .inr (List.all_eq_false.2 ⟨i, by simpa using hi, by simp [h]⟩)
theorem sidedB_yes {l : List UInt8} (hw : wordB l = true) (h : ∀ i, i < l.length → twoAt l i = true) : sidedB l = true := by
  rw [sidedB, hw, Bool.true_and]
  exact List.all_eq_true.2 fun i hi => h i (by simpa using hi)
def gluR (l : List UInt8) : Bool × List Int := if sidedB l = true then (true, parL l) else (false, [])
theorem gluR_len {l : List UInt8} {ok : Bool} {ys : List Int} (h : gluR l = (ok, ys)) : ys.length ≤ 12 := by
  unfold gluR at h
  split at h
  · rename_i hs
    have hw : wordB l = true := by rw [sidedB, Bool.and_eq_true] at hs; exact hs.1
    have := (wordB_iff.1 hw).len
    simp only [Prod.mk.injEq] at h
    rw [← h.2, parL_len]; omega
  · simp only [Prod.mk.injEq] at h
    rw [← h.2]; exact Nat.zero_le _

end Go.Proofs.YtfdliekhlcbkcaaDoor

namespace Go.Proofs.YtfdliekhlcbkcaaDoor

/-- The letter in its other form. -/
def oth (c : UInt8) : UInt8 := c ^^^ 32
/-- The letter with a number, small or large. -/
def nmb (n : Nat) (s : Bool) : UInt8 := UInt8.ofNat (if s then 97 + n else 65 + n)
def turnW (l : List UInt8) : List UInt8 := l.drop 1 ++ l.take 1
def backW (l : List UInt8) : List UInt8 := (l.map oth).reverse
theorem backW_len (l : List UInt8) : (backW l).length = l.length := by simp [backW]
theorem backW_append (a b : List UInt8) : backW (a ++ b) = backW b ++ backW a := by simp [backW]
theorem oth_all : ∀ n, n < 256 → 0 ≤ ltr (UInt8.ofNat n) → oth (UInt8.ofNat n) = nmb (ltr (UInt8.ofNat n)).toNat (!sml (UInt8.ofNat n)) := by decide +kernel
theorem oth_eq (c : UInt8) (h : 0 ≤ ltr c) : oth c = nmb (ltr c).toNat (!sml c) := by
  have := oth_all c.toNat (by have := c.toNat_lt; omega)
  rw [show UInt8.ofNat c.toNat = c from by simp] at this
  exact this h
theorem ltr_oth_all : ∀ n, n < 256 → 0 ≤ ltr (UInt8.ofNat n) → ltr (oth (UInt8.ofNat n)) = ltr (UInt8.ofNat n) ∧ sml (oth (UInt8.ofNat n)) = !sml (UInt8.ofNat n) := by decide +kernel
theorem ltr_oth (c : UInt8) (h : 0 ≤ ltr c) : ltr (oth c) = ltr c ∧ sml (oth c) = !sml c := by
  have := ltr_oth_all c.toNat (by have := c.toNat_lt; omega)
  rw [show UInt8.ofNat c.toNat = c from by simp] at this
  exact this h
theorem ltr_nmb : ∀ n, n < 5 → ∀ s, ltr (nmb n s) = n ∧ sml (nmb n s) = s := by decide +kernel
theorem oth_nmb : ∀ n, n < 11 → ∀ s, oth (nmb n s) = nmb n (!s) := by decide +kernel

/-- The first side with the letter of a side; how many letters are there first ahead of a side. -/
def fst (l : List UInt8) (i : Nat) : Nat := min i (par l i)
def rk (l : List UInt8) (i : Nat) : Nat := (List.range i).countP fun j => decide (j < par l j)
theorem rk_zero (l : List UInt8) : rk l 0 = 0 := rfl
theorem rk_succ (l : List UInt8) (i : Nat) : rk l (i + 1) = rk l i + if i < par l i then 1 else 0 := by
  simp [rk, List.range_succ, List.countP_append]
theorem rk_mono (l : List UInt8) {i j : Nat} (h : i ≤ j) : rk l i ≤ rk l j := by
  induction h with
  | refl => exact Nat.le_refl _
  | step _ ih => rw [rk_succ]; omega
/-- The byte of a side renamed. -/
def nmAt (l : List UInt8) (k i : Nat) : UInt8 := nmb (k + rk l (fst l i)) (sml (gb l i) == sml (gb l (fst l i)))
def namesW (l : List UInt8) (k : Nat) : List UInt8 := (List.range l.length).map (nmAt l k)
theorem namesW_len (l : List UInt8) (k : Nat) : (namesW l k).length = l.length := by simp [namesW]
theorem gb_names {l : List UInt8} {k i : Nat} (h : i < l.length) : gb (namesW l k) i = nmAt l k i := by
  rw [gb_eq (by rw [namesW_len]; exact h)]; simp [namesW]

/-! ### How many letters -/
/-- Half of the numbers below n, by an exchange of two and two. -/
theorem half_first : ∀ (n : Nat) (f : Nat → Nat), (∀ i, i < n → f i < n ∧ f i ≠ i ∧ f (f i) = i) → 2 * ((List.range n).countP fun j => decide (j < f j)) = n := by
  intro n f h
  have h1 : (List.range n).countP (fun j => decide (j < f j)) = (List.range n).countP (fun j => decide (f j < j)) := by
    have hp : ((List.range n).map f).Perm (List.range n) := by
      apply (List.perm_ext_iff_of_nodup ?_ List.nodup_range).2
      · intro a
        simp only [List.mem_map, List.mem_range]
        constructor
        · rintro ⟨b, hb, rfl⟩; exact (h b hb).1
        · intro ha; exact ⟨f a, (h a ha).1, (h a ha).2.2⟩
      · rw [List.nodup_iff_pairwise_ne, List.pairwise_map]
        refine List.Pairwise.imp_of_mem ?_ List.nodup_range
        intro a b ha hb hab e
        simp only [List.mem_range] at ha hb
        have := (h a ha).2.2
        rw [e, (h b hb).2.2] at this
        exact hab this.symm
    rw [← hp.countP_eq (fun j => decide (j < f j)), List.countP_map]
    apply List.countP_congr
    intro a ha
    simp only [List.mem_range] at ha
    simp [(h a ha).2.2]
  have h2 : (List.range n).countP (fun j => decide (j < f j)) + (List.range n).countP (fun j => decide (f j < j)) = n := by
    have e : (List.range n).countP (fun j => decide (f j < j)) = (List.range n).countP (fun j => decide (¬ decide (j < f j) = true)) := by
      apply List.countP_congr
      intro a ha
      simp only [List.mem_range] at ha
      have := (h a ha).2.1
      simp only [decide_eq_true_eq]
      omega
    have := List.length_eq_countP_add_countP (fun j => decide (j < f j)) (l := List.range n)
    rw [e]
    rw [List.length_range] at this
    exact this.symm
  omega
theorem Word.rk_all {l : List UInt8} (h : Word l) : 2 * rk l l.length = l.length :=
  half_first l.length (par l) fun _ hi => ⟨(h.isPar hi).lt, (h.isPar hi).ne, h.par2 hi⟩
theorem Word.isFst {l : List UInt8} (h : Word l) {i : Nat} (hi : i < l.length) : fst l i < par l (fst l i) ∧ fst l i < l.length ∧ ltr (gb l (fst l i)) = ltr (gb l i) := by
  have hp := h.isPar hi
  unfold fst
  rcases Nat.lt_or_ge i (par l i) with h1 | h1
  · rw [Nat.min_eq_left (by omega)]; exact ⟨h1, hi, rfl⟩
  · have := hp.ne
    rw [Nat.min_eq_right h1, h.par2 hi]; exact ⟨by omega, hp.lt, hp.eq⟩
theorem Word.rk_lt {l : List UInt8} (h : Word l) {i : Nat} (hi : i < l.length) : 2 * rk l (fst l i) + 2 ≤ l.length := by
  obtain ⟨h1, h2, _⟩ := h.isFst hi
  have h3 := h.rk_all
  have h4 := rk_succ l (fst l i)
  rw [if_pos h1] at h4
  have h5 := rk_mono l (show fst l i + 1 ≤ l.length by omega)
  omega

/-! ### What the functions answer -/
def strR (ok : Bool) (l : List UInt8) : Bool × List UInt8 := if ok then (true, l) else (false, [])
def turnWR (l : List UInt8) : Bool × List UInt8 := strR (wordB l) (turnW l)
def backWR (l : List UInt8) : Bool × List UInt8 := strR (wordB l) (backW l)
def namesWR (l : List UInt8) : Bool × List UInt8 := strR (wordB l) (namesW l 0)
def joinOk (a b : List UInt8) : Bool := wordB a && wordB b && decide (a.length + b.length ≤ 10)
def joinW (a b : List UInt8) : List UInt8 := namesW a 0 ++ namesW b (a.length / 2)
def joinWR (a b : List UInt8) : Bool × List UInt8 := strR (joinOk a b) (joinW a b)
/-- The word behind a cut. -/
def restW (l : List UInt8) (i k m : Nat) : List UInt8 :=
  let r := l.drop (m + 1) ++ [nmb (ltr (gb l k)).toNat false] ++ (l.take m).drop i
  if sml (gb l k) == sml (gb l m) then backW r else r
def cutW (l : List UInt8) (i k : Nat) : List UInt8 := (l.take i).drop (k + 1) ++ [nmb (ltr (gb l k)).toNat true] ++ l.take k ++ restW l i k (par l k)
def cutOk (l : List UInt8) (i k : Int) : Bool := wordB l && decide (1 ≤ i ∧ i ≤ (l.length : Int) - 1) && decide (0 ≤ k ∧ k ≤ i - 1) && decide (i ≤ (par l k.toNat : Int))
def cutWR (l : List UInt8) (i k : Int) : Bool × List UInt8 := strR (cutOk l i k) (cutW l i.toNat k.toNat)

end Go.Proofs.YtfdliekhlcbkcaaDoor

namespace Go.Proofs.YtfdliekhlcbkcaaDoor

theorem word_of {l : List UInt8} (h0 : 0 < l.length) (h : ∀ c, c ∈ l → 0 ≤ ltr c ∧ ltc l (ltr c) = 2) : Word l :=
  ⟨h0, fun i hi => by rw [gb_eq hi]; exact h _ (List.getElem_mem hi)⟩
theorem Word.perm {l m : List UInt8} (h : Word l) (hp : l.Perm m) : Word m :=
  word_of (by rw [← hp.length_eq]; exact h.pos) fun c hc => by
    have := h.mem (hp.mem_iff.2 hc)
    refine ⟨this.1, ?_⟩
    unfold ltc at this ⊢
    rw [← hp.countP_eq]; exact this.2
theorem Word.turn {l : List UInt8} (h : Word l) : Word (turnW l) := by
  refine h.perm ?_
  unfold turnW
  have := List.perm_append_comm (l₁ := l.take 1) (l₂ := l.drop 1)
  rwa [List.take_append_drop] at this
theorem Word.map_oth {l : List UInt8} (h : Word l) : Word (l.map oth) := by
  refine word_of (by rw [List.length_map]; exact h.pos) fun c hc => ?_
  obtain ⟨d, hd, rfl⟩ := List.mem_map.1 hc
  have hm := h.mem hd
  have e := (ltr_oth d hm.1).1
  rw [e]
  refine ⟨hm.1, ?_⟩
  rw [← hm.2]
  unfold ltc
  rw [List.countP_map]
  refine List.countP_congr fun x hx => ?_
  simp only [Function.comp, (ltr_oth x (h.mem hx).1).1]
theorem Word.back {l : List UInt8} (h : Word l) : Word (backW l) := h.map_oth.perm (List.reverse_perm _).symm
theorem Word.fst_par {l : List UInt8} (h : Word l) {i : Nat} (hi : i < l.length) : fst l (par l i) = fst l i := by
  unfold fst; rw [h.par2 hi, Nat.min_comm]
theorem Word.fst_iff {l : List UInt8} (h : Word l) {i j : Nat} (hi : i < l.length) (hj : j < l.length) : fst l j = fst l i ↔ ltr (gb l j) = ltr (gb l i) := by
  constructor
  · intro e
    rw [← (h.isFst hj).2.2, e, (h.isFst hi).2.2]
  · intro e
    rcases (h.isPar hi).all j hj e with rfl | rfl
    · rfl
    · exact h.fst_par hi
theorem Word.rk_inj {l : List UInt8} (h : Word l) {i j : Nat} (hi : i < l.length) (hj : j < l.length) (e : rk l (fst l j) = rk l (fst l i)) : fst l j = fst l i := by
  obtain ⟨a1, a2, -⟩ := h.isFst hi
  obtain ⟨b1, b2, -⟩ := h.isFst hj
  rcases Nat.lt_trichotomy (fst l j) (fst l i) with h' | h' | h'
  · have h1 := rk_succ l (fst l j)
    rw [if_pos b1] at h1
    have := rk_mono l (show fst l j + 1 ≤ fst l i by omega)
    omega
  · exact h'
  · have h1 := rk_succ l (fst l i)
    rw [if_pos a1] at h1
    have := rk_mono l (show fst l i + 1 ≤ fst l j by omega)
    omega
theorem map_gb (l : List UInt8) : (List.range l.length).map (gb l) = l := by
  apply List.ext_getElem
  · simp
  · intro i h1 h2
    rw [List.getElem_map, List.getElem_range, gb_eq h2]
theorem Word.ltr_name {l : List UInt8} (h : Word l) {k : Nat} (hk : 2 * k + l.length ≤ 10) {i : Nat} (hi : i < l.length) : ltr (nmAt l k i) = ((k + rk l (fst l i) : Nat) : Int) ∧ sml (nmAt l k i) = (sml (gb l i) == sml (gb l (fst l i))) := by
  have := h.rk_lt hi
  exact ltr_nmb _ (by omega) _
theorem Word.ltc_name {l : List UInt8} (h : Word l) {k : Nat} (hk : 2 * k + l.length ≤ 10) {i : Nat} (hi : i < l.length) : ltc (namesW l k) ((k + rk l (fst l i) : Nat) : Int) = 2 := by
  rw [← (h.ok i hi).2]
  have e : ltc l (ltr (gb l i)) = (List.range l.length).countP fun j => ltr (gb l j) == ltr (gb l i) := by
    have h1 := List.countP_map (p := fun c => ltr c == ltr (gb l i)) (f := gb l) (l := List.range l.length)
    rw [map_gb] at h1
    exact h1
  rw [e]
  unfold ltc namesW
  rw [List.countP_map]
  refine List.countP_congr fun j hj => ?_
  have hjl := List.mem_range.1 hj
  simp only [Function.comp, beq_iff_eq]
  rw [(h.ltr_name hk hjl).1, ← h.fst_iff hi hjl]
  constructor
  · intro e; exact h.rk_inj hi hjl (by omega)
  · intro e; rw [e]
theorem Word.names {l : List UInt8} (h : Word l) {k : Nat} (hk : 2 * k + l.length ≤ 10) : Word (namesW l k) := by
  refine word_of (by rw [namesW_len]; exact h.pos) fun c hc => ?_
  obtain ⟨i, hi, rfl⟩ := List.mem_map.1 hc
  have hil := List.mem_range.1 hi
  have e := (h.ltr_name hk hil).1
  have h2 := h.ltc_name hk hil
  rw [e]
  exact ⟨by omega, h2⟩
theorem Word.tail_not {l : List UInt8} (h : Word l) : ¬ Word (l.drop 1) := fun h' => by
  have h1 := h.len
  have h2 := h'.len
  rw [List.length_drop] at h2
  omega

end Go.Proofs.YtfdliekhlcbkcaaDoor
