/-
  Plain, for lists of forms: the order of maps is whole; a list that ascends is told by what stands in it; to put in, to strike repeats; the next permutation.
-/
import Derived.Test.YteajaikgeephmaaCmpM
namespace Go.Proofs.Yteajaikgeephmaa

theorem cmpL_pm : ∀ a b : List Int, cmpL a b = -1 ∨ cmpL a b = 0 ∨ cmpL a b = 1
  | [], _ => .inr (.inl (by rw [cmpL]))
  | _ :: _, [] => .inr (.inl (by rw [cmpL]))
  | x :: a, y :: b => by
    rw [cmpL]
    split
    · exact .inl rfl
    · split
      · exact .inr (.inr rfl)
      · exact cmpL_pm a b
theorem cmpL_swap : ∀ {a b : List Int}, a.length = b.length → cmpL b a = - cmpL a b
  | [], [], _ => rfl
  | [], _ :: _, h => by simp at h
  | _ :: _, [], h => by simp at h
  | x :: a, y :: b, h => by
    rw [cmpL, cmpL]
    by_cases h1 : x < y
    · rw [if_neg (by omega), if_pos h1, if_pos h1]; rfl
    · by_cases h2 : y < x
      · rw [if_pos h2, if_neg h1, if_pos h2]
      · rw [if_neg h2, if_neg h1, if_neg h1, if_neg h2]
        exact cmpL_swap (by simpa using h)
theorem cmpLe_trans : ∀ {a b c : List Int}, a.length = b.length → b.length = c.length → cmpL a b < 0 → cmpL b c < 0 → cmpL a c < 0
  | [], _, _, _, _, h, _ => by rw [cmpL] at h; omega
  | _ :: _, [], _, h, _, _, _ => by simp at h
  | _ :: _, _ :: _, [], _, h, _, _ => by simp at h
  | x :: a, y :: b, z :: c, h1, h2, h3, h4 => by
    rw [cmpL] at h3 h4 ⊢
    have key := @cmpLe_trans a b c (by simpa using h1) (by simpa using h2)
    by_cases e1 : x < y
    · by_cases e2 : y < z
      · rw [if_pos (by omega)]; omega
      · rw [if_neg e2] at h4
        by_cases e3 : z < y
        · rw [if_pos e3] at h4; omega
        · rw [if_pos (by omega)]; omega
    · rw [if_neg e1] at h3
      by_cases e3 : y < x
      · rw [if_pos e3] at h3; omega
      · rw [if_neg e3] at h3
        obtain rfl : x = y := by omega
        by_cases e2 : x < z
        · rw [if_pos e2]; omega
        · rw [if_neg e2] at h4 ⊢
          by_cases e4 : z < x
          · rw [if_pos e4] at h4; omega
          · rw [if_neg e4] at h4 ⊢
            exact key h3 h4

/-- A map as two lists of n numbers. -/
structure MV (n : Nat) where
  t : List Int
  f : List Int
  ht : t.length = n
  hf : f.length = n
theorem MV.ext_ {n : Nat} {a b : MV n} (h1 : a.t = b.t) (h2 : a.f = b.f) : a = b := by
  cases a; cases b; cases h1; cases h2; rfl
def MV.cmp {n : Nat} (a b : MV n) : Int := cmpM a.t a.f b.t b.f
section
variable {n : Nat} {a b c : MV n}
theorem MV.cmp_zero : a.cmp b = 0 ↔ a = b := by
  rw [MV.cmp, cmpM_zero (a.ht.trans b.ht.symm) (a.hf.trans b.hf.symm)]
  exact ⟨fun h => MV.ext_ h.1 h.2, fun h => by rw [h]; exact ⟨rfl, rfl⟩⟩
theorem MV.cmp_swap : b.cmp a = - a.cmp b := by
  unfold MV.cmp cmpM
  have h1 := cmpL_swap (a.ht.trans b.ht.symm)
  have h2 := cmpL_swap (a.hf.trans b.hf.symm)
  by_cases e : cmpL a.t b.t = 0
  · rw [if_pos e, if_pos (by omega), h2]
  · rw [if_neg e, if_neg (by omega), h1]
theorem MV.cmp_trans (h1 : a.cmp b < 0) (h2 : b.cmp c < 0) : a.cmp c < 0 := by
  unfold MV.cmp cmpM at h1 h2 ⊢
  have la := a.ht.trans b.ht.symm
  have lb := b.ht.trans c.ht.symm
  have ma := a.hf.trans b.hf.symm
  have mb := b.hf.trans c.hf.symm
  by_cases e1 : cmpL a.t b.t = 0
  · have := cmpL_zero la e1
    rw [if_pos e1] at h1
    rw [this]
    by_cases e2 : cmpL b.t c.t = 0
    · rw [if_pos e2] at h2 ⊢
      exact cmpLe_trans ma mb h1 h2
    · rw [if_neg e2] at h2 ⊢
      exact h2
  · rw [if_neg e1] at h1
    by_cases e2 : cmpL b.t c.t = 0
    · have := cmpL_zero lb e2
      rw [← this, if_neg e1]
      exact h1
    · rw [if_neg e2] at h2
      have h3 := cmpLe_trans la lb h1 h2
      rw [if_neg (by omega)]
      exact h3
theorem MV.tri (a b : MV n) : a.cmp b < 0 ∨ a = b ∨ b.cmp a < 0 := by
  rcases Int.lt_trichotomy (a.cmp b) 0 with h | h | h
  · exact .inl h
  · exact .inr (.inl (MV.cmp_zero.1 h))
  · exact .inr (.inr (by rw [MV.cmp_swap]; omega))
theorem MV.irrefl (a : MV n) : ¬ a.cmp a < 0 := by rw [MV.cmp_zero.2 rfl]; omega
end

/-- A list of maps that ascends, each there once. -/
def Asc {n : Nat} (l : List (MV n)) : Prop := l.Pairwise fun a b => a.cmp b < 0
section
variable {n : Nat}
theorem asc_ext : ∀ {l l' : List (MV n)}, Asc l → Asc l' → (∀ x, x ∈ l ↔ x ∈ l') → l = l'
  | [], [], _, _, _ => rfl
  | [], b :: _, _, _, h => absurd ((h b).2 (by simp)) (by simp)
  | a :: _, [], _, _, h => absurd ((h a).1 (by simp)) (by simp)
  | a :: l, b :: l', h1, h2, h => by
    obtain ⟨p1, q1⟩ := List.pairwise_cons.1 h1
    obtain ⟨p2, q2⟩ := List.pairwise_cons.1 h2
    have e : a = b := by
      rcases MV.tri a b with h3 | h3 | h3
      · rcases List.mem_cons.1 ((h a).1 (by simp)) with e | e
        · exact e
        · exact absurd (MV.cmp_trans h3 (p2 a e)) (MV.irrefl _)
      · exact h3
      · rcases List.mem_cons.1 ((h b).2 (by simp)) with e | e
        · exact e.symm
        · exact absurd (MV.cmp_trans h3 (p1 b e)) (MV.irrefl _)
    subst e
    rw [asc_ext q1 q2 fun x => ?_]
    constructor
    · intro hx
      rcases List.mem_cons.1 ((h x).1 (by simp [hx])) with e | e
      · subst e; exact absurd (p1 x hx) (MV.irrefl _)
      · exact e
    · intro hx
      rcases List.mem_cons.1 ((h x).2 (by simp [hx])) with e | e
      · subst e; exact absurd (p2 x hx) (MV.irrefl _)
      · exact e

/-- To put a map in at its place, if it is not there. -/
def putM (x : MV n) : List (MV n) → List (MV n)
  | [] => [x]
  | a :: l => if a.cmp x < 0 then a :: putM x l else if a.cmp x = 0 then a :: l else x :: a :: l
theorem mem_putM {x y : MV n} : ∀ {l : List (MV n)}, y ∈ putM x l ↔ y = x ∨ y ∈ l
  | [] => by simp [putM]
  | a :: l => by
    rw [putM]
    split
    · rw [List.mem_cons, mem_putM, List.mem_cons]
      constructor
      · rintro (h | h | h) <;> simp [h]
      · rintro (h | h | h) <;> simp [h]
    · split
      · rename_i h
        have := MV.cmp_zero.1 h
        subst this
        simp
      · simp
theorem asc_putM {x : MV n} : ∀ {l : List (MV n)}, Asc l → Asc (putM x l)
  | [], _ => by simp [putM, Asc]
  | a :: l, h => by
    obtain ⟨p, q⟩ := List.pairwise_cons.1 h
    rw [putM]
    split
    · rename_i h1
      exact List.pairwise_cons.2 ⟨fun y hy => by
        rcases mem_putM.1 hy with rfl | hy
        · exact h1
        · exact p y hy, asc_putM q⟩
    · split
      · exact h
      · rename_i h1 h2
        have hxa : x.cmp a < 0 := by rw [MV.cmp_swap]; omega
        exact List.pairwise_cons.2 ⟨fun y hy => by
          rcases List.mem_cons.1 hy with rfl | hy
          · exact hxa
          · exact MV.cmp_trans hxa (p y hy), h⟩
/-- To put in all of a list, one after the other. -/
theorem asc_fold (l : List (MV n)) : ∀ {acc : List (MV n)}, Asc acc → Asc (l.foldl (fun a x => putM x a) acc) := by
  induction l with
  | nil => intro acc h; exact h
  | cons x l ih => intro acc h; exact ih (asc_putM h)
theorem mem_fold (l : List (MV n)) (y : MV n) : ∀ {acc : List (MV n)}, y ∈ l.foldl (fun a x => putM x a) acc ↔ y ∈ l ∨ y ∈ acc := by
  induction l with
  | nil => intro acc; simp
  | cons x l ih =>
    intro acc
    rw [List.foldl_cons, ih, mem_putM, List.mem_cons]
    constructor
    · rintro (h | h | h) <;> simp [h]
    · rintro ((h | h) | h) <;> simp [h]

/-- To strike repeats that stand side by side: the first of each stays. -/
def compM : List (MV n) → List (MV n)
  | [] => []
  | [a] => [a]
  | a :: b :: l => if a.cmp b = 0 then compM (a :: l) else a :: compM (b :: l)
termination_by l => l.length
theorem mem_compM {y : MV n} : ∀ {l : List (MV n)}, y ∈ compM l ↔ y ∈ l
  | [] => by simp [compM]
  | [a] => by simp [compM]
  | a :: b :: l => by
    rw [compM]
    split
    · rename_i h
      have := MV.cmp_zero.1 h
      subst this
      rw [mem_compM]; simp
    · rw [List.mem_cons, mem_compM]; simp
termination_by l => l.length
/-- A list that does not fall, its repeats struck, ascends. -/
theorem asc_compM : ∀ {l : List (MV n)}, l.Pairwise (fun a b => ¬ b.cmp a < 0) → Asc (compM l)
  | [], _ => by simp [compM, Asc]
  | [a], _ => by simp [compM, Asc]
  | a :: b :: l, h => by
    obtain ⟨p, q⟩ := List.pairwise_cons.1 h
    rw [compM]
    split
    · exact asc_compM (List.pairwise_cons.2 ⟨fun y hy => p y (by simp [hy]), (List.pairwise_cons.1 q).2⟩)
    · rename_i hne
      refine List.pairwise_cons.2 ⟨fun y hy => ?_, asc_compM q⟩
      have hab : a.cmp b < 0 := by
        rcases MV.tri a b with h3 | h3 | h3
        · exact h3
        · exact absurd (MV.cmp_zero.2 h3) hne
        · exact absurd h3 (p b (by simp))
      rcases List.mem_cons.1 (mem_compM.1 hy) with rfl | hy
      · exact hab
      · have := (List.pairwise_cons.1 q).1 y hy
        rcases MV.tri b y with h3 | h3 | h3
        · exact MV.cmp_trans hab h3
        · rw [← h3]; exact hab
        · exact absurd h3 this
termination_by l => l.length
end

end Go.Proofs.Yteajaikgeephmaa
