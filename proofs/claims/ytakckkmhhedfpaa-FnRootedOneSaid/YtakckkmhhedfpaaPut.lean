/-
  Plain, for lists of forms: the order of maps is whole; a list that ascends is told by what stands in it; to put in, to strike repeats; the next permutation.
  A row of maps that a call owns (two cells a map): its cells read as a list of maps. The maps' own rows lie in other blocks: of another type.
  Plain: two ways to one list of forms: to sort, strike repeats and keep those of a genus; to put in, one after the other, those of a genus.
  The model's l3Put: a map is put in at its place in a row of maps that ascends.
-/
import Derived.Test.YtakckkmhhedfpaaCmpM
import Derived.Test.YtakckkmhhedfpaaKitM
import Derived.Test.YtakckkmhhedfpaaAbove
namespace Go.Proofs.Ytakckkmhhedfpaa

theorem cmpL_pm : ∀ a b : List Int, cmpL a b = -1 ∨ cmpL a b = 0 ∨ cmpL a b = 1
  | [], _ => .inr (.inl (by rw [cmpL]))
  | _ :: _, [] => .inr (.inl (by rw [cmpL]))
  | x :: a, y :: b => by
    rw [cmpL]
    split
    · exact .inl rfl
    · split
      · exact .inr (.inr rfl)
      · exact cmpL_pm a b
theorem cmpL_swap : ∀ {a b : List Int}, a.length = b.length → cmpL b a = - cmpL a b
  | [], [], _ => rfl
  | [], _ :: _, h => by simp at h
  | _ :: _, [], h => by simp at h
  | x :: a, y :: b, h => by
    rw [cmpL, cmpL]
    by_cases h1 : x < y
    · rw [if_neg (by omega), if_pos h1, if_pos h1]; rfl
    · by_cases h2 : y < x
      · rw [if_pos h2, if_neg h1, if_pos h2]
      · rw [if_neg h2, if_neg h1, if_neg h1, if_neg h2]
        exact cmpL_swap (by simpa using h)
theorem cmpLe_trans : ∀ {a b c : List Int}, a.length = b.length → b.length = c.length → cmpL a b < 0 → cmpL b c < 0 → cmpL a c < 0
  | [], _, _, _, _, h, _ => by rw [cmpL] at h; omega
  | _ :: _, [], _, h, _, _, _ => by simp at h
  | _ :: _, _ :: _, [], _, h, _, _ => by simp at h
  | x :: a, y :: b, z :: c, h1, h2, h3, h4 => by
    rw [cmpL] at h3 h4 ⊢
    have key := @cmpLe_trans a b c (by simpa using h1) (by simpa using h2)
    by_cases e1 : x < y
    · by_cases e2 : y < z
      · rw [if_pos (by omega)]; omega
      · rw [if_neg e2] at h4
        by_cases e3 : z < y
        · rw [if_pos e3] at h4; omega
        · rw [if_pos (by omega)]; omega
    · rw [if_neg e1] at h3
      by_cases e3 : y < x
      · rw [if_pos e3] at h3; omega
      · rw [if_neg e3] at h3
        obtain rfl : x = y := by omega
        by_cases e2 : x < z
        · rw [if_pos e2]; omega
        · rw [if_neg e2] at h4 ⊢
          by_cases e4 : z < x
          · rw [if_pos e4] at h4; omega
          · rw [if_neg e4] at h4 ⊢
            exact key h3 h4

/-- A map as two lists of n numbers. -/
structure MV (n : Nat) where
  t : List Int
  f : List Int
  ht : t.length = n
  hf : f.length = n
theorem MV.ext_ {n : Nat} {a b : MV n} (h1 : a.t = b.t) (h2 : a.f = b.f) : a = b := by
  cases a; cases b; cases h1; cases h2; rfl
def MV.cmp {n : Nat} (a b : MV n) : Int := cmpM a.t a.f b.t b.f
section
variable {n : Nat} {a b c : MV n}
theorem MV.cmp_zero : a.cmp b = 0 ↔ a = b := by
  rw [MV.cmp, cmpM_zero (a.ht.trans b.ht.symm) (a.hf.trans b.hf.symm)]
  exact ⟨fun h => MV.ext_ h.1 h.2, fun h => by rw [h]; exact ⟨rfl, rfl⟩⟩
theorem MV.cmp_swap : b.cmp a = - a.cmp b := by
  unfold MV.cmp cmpM
  have h1 := cmpL_swap (a.ht.trans b.ht.symm)
  have h2 := cmpL_swap (a.hf.trans b.hf.symm)
  by_cases e : cmpL a.t b.t = 0
  · rw [if_pos e, if_pos (by omega), h2]
  · rw [if_neg e, if_neg (by omega), h1]
theorem MV.cmp_trans (h1 : a.cmp b < 0) (h2 : b.cmp c < 0) : a.cmp c < 0 := by
  unfold MV.cmp cmpM at h1 h2 ⊢
  have la := a.ht.trans b.ht.symm
  have lb := b.ht.trans c.ht.symm
  have ma := a.hf.trans b.hf.symm
  have mb := b.hf.trans c.hf.symm
  by_cases e1 : cmpL a.t b.t = 0
  · have := cmpL_zero la e1
    rw [if_pos e1] at h1
    rw [this]
    by_cases e2 : cmpL b.t c.t = 0
    · rw [if_pos e2] at h2 ⊢
      exact cmpLe_trans ma mb h1 h2
    · rw [if_neg e2] at h2 ⊢
      exact h2
  · rw [if_neg e1] at h1
    by_cases e2 : cmpL b.t c.t = 0
    · have := cmpL_zero lb e2
      rw [← this, if_neg e1]
      exact h1
    · rw [if_neg e2] at h2
      have h3 := cmpLe_trans la lb h1 h2
      rw [if_neg (by omega)]
      exact h3
theorem MV.tri (a b : MV n) : a.cmp b < 0 ∨ a = b ∨ b.cmp a < 0 := by
  rcases Int.lt_trichotomy (a.cmp b) 0 with h | h | h
  · exact .inl h
  · exact .inr (.inl (MV.cmp_zero.1 h))
  · exact .inr (.inr (by rw [MV.cmp_swap]; omega))
theorem MV.irrefl (a : MV n) : ¬ a.cmp a < 0 := by rw [MV.cmp_zero.2 rfl]; omega
end

/-- A list of maps that ascends, each there once. -/
def Asc {n : Nat} (l : List (MV n)) : Prop := l.Pairwise fun a b => a.cmp b < 0
section
variable {n : Nat}
theorem asc_ext : ∀ {l l' : List (MV n)}, Asc l → Asc l' → (∀ x, x ∈ l ↔ x ∈ l') → l = l'
  | [], [], _, _, _ => rfl
  | [], b :: _, _, _, h => absurd ((h b).2 (by simp)) (by simp)
  | a :: _, [], _, _, h => absurd ((h a).1 (by simp)) (by simp)
  | a :: l, b :: l', h1, h2, h => by
    obtain ⟨p1, q1⟩ := List.pairwise_cons.1 h1
    obtain ⟨p2, q2⟩ := List.pairwise_cons.1 h2
    have e : a = b := by
      rcases MV.tri a b with h3 | h3 | h3
      · rcases List.mem_cons.1 ((h a).1 (by simp)) with e | e
        · exact e
        · exact absurd (MV.cmp_trans h3 (p2 a e)) (MV.irrefl _)
      · exact h3
      · rcases List.mem_cons.1 ((h b).2 (by simp)) with e | e
        · exact e.symm
        · exact absurd (MV.cmp_trans h3 (p1 b e)) (MV.irrefl _)
    subst e
    rw [asc_ext q1 q2 fun x => ?_]
    constructor
    · intro hx
      rcases List.mem_cons.1 ((h x).1 (by simp [hx])) with e | e
      · subst e; exact absurd (p1 x hx) (MV.irrefl _)
      · exact e
    · intro hx
      rcases List.mem_cons.1 ((h x).2 (by simp [hx])) with e | e
      · subst e; exact absurd (p2 x hx) (MV.irrefl _)
      · exact e

/-- To put a map in at its place, if it is not there. -/
def putM (x : MV n) : List (MV n) → List (MV n)
  | [] => [x]
  | a :: l => if a.cmp x < 0 then a :: putM x l else if a.cmp x = 0 then a :: l else x :: a :: l
theorem mem_putM {x y : MV n} : ∀ {l : List (MV n)}, y ∈ putM x l ↔ y = x ∨ y ∈ l
  | [] => by simp [putM]
  | a :: l => by
    rw [putM]
    split
    · rw [List.mem_cons, mem_putM, List.mem_cons]
      constructor
      · rintro (h | h | h) <;> simp [h]
      · rintro (h | h | h) <;> simp [h]
    · split
      · rename_i h
        have := MV.cmp_zero.1 h
        subst this
        simp
      · simp
theorem asc_putM {x : MV n} : ∀ {l : List (MV n)}, Asc l → Asc (putM x l)
  | [], _ => by simp [putM, Asc]
  | a :: l, h => by
    obtain ⟨p, q⟩ := List.pairwise_cons.1 h
    rw [putM]
    split
    · rename_i h1
      exact List.pairwise_cons.2 ⟨fun y hy => by
        rcases mem_putM.1 hy with rfl | hy
        · exact h1
        · exact p y hy, asc_putM q⟩
    · split
      · exact h
      · rename_i h1 h2
        have hxa : x.cmp a < 0 := by rw [MV.cmp_swap]; omega
        exact List.pairwise_cons.2 ⟨fun y hy => by
          rcases List.mem_cons.1 hy with rfl | hy
          · exact hxa
          · exact MV.cmp_trans hxa (p y hy), h⟩
/-- To put in all of a list, one after the other. -/
theorem asc_fold (l : List (MV n)) : ∀ {acc : List (MV n)}, Asc acc → Asc (l.foldl (fun a x => putM x a) acc) := by
  induction l with
  | nil => intro acc h; exact h
  | cons x l ih => intro acc h; exact ih (asc_putM h)
theorem mem_fold (l : List (MV n)) (y : MV n) : ∀ {acc : List (MV n)}, y ∈ l.foldl (fun a x => putM x a) acc ↔ y ∈ l ∨ y ∈ acc := by
  induction l with
  | nil => intro acc; simp
  | cons x l ih =>
    intro acc
    rw [List.foldl_cons, ih, mem_putM, List.mem_cons]
    constructor
    · rintro (h | h | h) <;> simp [h]
    · rintro ((h | h) | h) <;> simp [h]

/-- To strike repeats that stand side by side: the first of each stays. -/
def compM : List (MV n) → List (MV n)
  | [] => []
  | [a] => [a]
  | a :: b :: l => if a.cmp b = 0 then compM (a :: l) else a :: compM (b :: l)
termination_by l => l.length
theorem mem_compM {y : MV n} : ∀ {l : List (MV n)}, y ∈ compM l ↔ y ∈ l
  | [] => by simp [compM]
  | [a] => by simp [compM]
  | a :: b :: l => by
    rw [compM]
    split
    · rename_i h
      have := MV.cmp_zero.1 h
      subst this
      rw [mem_compM]; simp
    · rw [List.mem_cons, mem_compM]; simp
termination_by l => l.length
/-- A list that does not fall, its repeats struck, ascends. -/
theorem asc_compM : ∀ {l : List (MV n)}, l.Pairwise (fun a b => ¬ b.cmp a < 0) → Asc (compM l)
  | [], _ => by simp [compM, Asc]
  | [a], _ => by simp [compM, Asc]
  | a :: b :: l, h => by
    obtain ⟨p, q⟩ := List.pairwise_cons.1 h
    rw [compM]
    split
    · exact asc_compM (List.pairwise_cons.2 ⟨fun y hy => p y (by simp [hy]), (List.pairwise_cons.1 q).2⟩)
    · rename_i hne
      refine List.pairwise_cons.2 ⟨fun y hy => ?_, asc_compM q⟩
      have hab : a.cmp b < 0 := by
        rcases MV.tri a b with h3 | h3 | h3
        · exact h3
        · exact absurd (MV.cmp_zero.2 h3) hne
        · exact absurd h3 (p b (by simp))
      rcases List.mem_cons.1 (mem_compM.1 hy) with rfl | hy
      · exact hab
      · have := (List.pairwise_cons.1 q).1 y hy
        rcases MV.tri b y with h3 | h3 | h3
        · exact MV.cmp_trans hab h3
        · rw [← h3]; exact hab
        · exact absurd h3 this
termination_by l => l.length
end

end Go.Proofs.Ytakckkmhhedfpaa

namespace Go.Proofs.Ytakckkmhhedfpaa
open Go.RowKit

/-- Cells, two by two, read as maps. -/
def Maps (w : World) (lo : Nat) : List Value → List (List Int × List Int) → Prop
  | [], [] => True
  | u :: u' :: vs, m :: ms => OwnM w lo u u' m.1 m.2 ∧ Maps w lo vs ms
  | _, _ => False
section
variable {w w' : World} {lo lo' : Nat}
theorem Maps.nil_ (w : World) (lo : Nat) : Maps w lo [] [] := trivial
theorem Maps.all {p : World} (k : ∀ {u u' : Value} {t f : List Int}, OwnM w lo u u' t f → OwnM p lo' u u' t f) : ∀ {vs : List Value} {ms : List (List Int × List Int)}, Maps w lo vs ms → Maps p lo' vs ms
  | [], [], _ => trivial
  | _ :: _ :: _, _ :: _, h => ⟨k h.1, Maps.all k h.2⟩
  | [], _ :: _, h => h.elim
  | [_], [], h => h.elim
  | [_], _ :: _, h => h.elim
  | _ :: _ :: _, [], h => h.elim
theorem Maps.below {vs : List Value} {ms : List (List Int × List Int)} (h : Maps w lo vs ms) (hb : Below w.heap.size w w') : Maps w' lo vs ms := h.all fun o => o.below hb
theorem Maps.mono {vs : List Value} {ms : List (List Int × List Int)} (h : Maps w lo vs ms) (hl : lo' ≤ lo) : Maps w lo' vs ms := h.all fun o => o.mono hl
theorem Maps.len : ∀ {vs : List Value} {ms : List (List Int × List Int)}, Maps w lo vs ms → vs.length = ms.length * 2
  | [], [], _ => rfl
  | _ :: _ :: vs, _ :: ms, h => by
    have := Maps.len h.2
    simp only [List.length_cons]; omega
  | [], _ :: _, h => h.elim
  | [_], [], h => h.elim
  | [_], _ :: _, h => h.elim
  | _ :: _ :: _, [], h => h.elim
theorem Maps.app {us : List Value} {ns : List (List Int × List Int)} (k : Maps w lo us ns) : ∀ {vs : List Value} {ms : List (List Int × List Int)}, Maps w lo vs ms → Maps w lo (vs ++ us) (ms ++ ns)
  | [], [], _ => k
  | _ :: _ :: _, _ :: _, h => ⟨h.1, Maps.app k h.2⟩
  | [], _ :: _, h => h.elim
  | [_], [], h => h.elim
  | [_], _ :: _, h => h.elim
  | _ :: _ :: _, [], h => h.elim
theorem Maps.one {u u' : Value} {t f : List Int} (h : OwnM w lo u u' t f) : Maps w lo [u, u'] [(t, f)] := ⟨h, trivial⟩
theorem Maps.take : ∀ {vs : List Value} {ms : List (List Int × List Int)} (_ : Maps w lo vs ms) (k : Nat), Maps w lo (vs.take (k * 2)) (ms.take k)
  | _, _, _, 0 => by simp [Maps]
  | [], [], _, k + 1 => by simp [Maps]
  | u :: u' :: vs, m :: ms, h, k + 1 => by
    rw [show (k + 1) * 2 = k * 2 + 1 + 1 by omega, List.take_succ_cons, List.take_succ_cons, List.take_succ_cons]
    exact ⟨h.1, Maps.take h.2 k⟩
  | [], _ :: _, h, _ + 1 => h.elim
  | [_], [], h, _ + 1 => h.elim
  | [_], _ :: _, h, _ + 1 => h.elim
  | _ :: _ :: _, [], h, _ + 1 => h.elim
theorem Maps.drop : ∀ {vs : List Value} {ms : List (List Int × List Int)} (_ : Maps w lo vs ms) (k : Nat), Maps w lo (vs.drop (k * 2)) (ms.drop k)
  | _, _, h, 0 => by simpa using h
  | [], [], _, k + 1 => by simp [Maps]
  | u :: u' :: vs, m :: ms, h, k + 1 => by
    rw [show (k + 1) * 2 = k * 2 + 1 + 1 by omega, List.drop_succ_cons, List.drop_succ_cons, List.drop_succ_cons]
    exact Maps.drop h.2 k
  | [], _ :: _, h, _ + 1 => h.elim
  | [_], [], h, _ + 1 => h.elim
  | [_], _ :: _, h, _ + 1 => h.elim
  | _ :: _ :: _, [], h, _ + 1 => h.elim
theorem Maps.at_ : ∀ {vs : List Value} {ms : List (List Int × List Int)} (_ : Maps w lo vs ms) {j : Nat} (hj : j < ms.length), ∃ u u', vs[j * 2]? = some u ∧ vs[j * 2 + 1]? = some u' ∧ OwnM w lo u u' (ms[j]).1 (ms[j]).2
  | [], [], _, _, hj => by simp at hj
  | u :: u' :: vs, m :: ms, h, 0, _ => ⟨u, u', rfl, rfl, h.1⟩
  | u :: u' :: vs, m :: ms, h, j + 1, hj => by
    obtain ⟨x, x', h1, h2, h3⟩ := Maps.at_ h.2 (j := j) (by simpa using hj)
    refine ⟨x, x', ?_, ?_, by simpa using h3⟩
    · rw [show (j + 1) * 2 = j * 2 + 1 + 1 by omega, List.getElem?_cons_succ, List.getElem?_cons_succ]; exact h1
    · rw [show (j + 1) * 2 + 1 = j * 2 + 1 + 1 + 1 by omega, List.getElem?_cons_succ, List.getElem?_cons_succ]; exact h2
  | [], _ :: _, h, _, _ => h.elim
  | [_], [], h, _, _ => h.elim
  | [_], _ :: _, h, _, _ => h.elim
  | _ :: _ :: _, [], h, _, _ => h.elim
end

/-- A row of maps that a call owns. -/
def RowM (w : World) (lo : Nat) (v : Value) (ms : List (List Int × List Int)) : Prop :=
  ∃ vs, w.ownsRow lo 35 2 v ms.length vs ∧ Maps w lo vs ms
section
variable {w w' : World} {lo lo' : Nat} {v : Value} {ms : List (List Int × List Int)}
theorem own_kept {lo' : Nat} {x : Value} {ys : List Int} {n : Nat} {vs : List Value} (hx : Own w lo' x ys) (hv : w.ownsRow lo 35 2 v n vs) (hg : w.grownBy w' v.ownBlock) : Own w' lo' x ys := by
  refine hx.grown hg ?_
  rcases hv.2 with ⟨rfl, _⟩ | ⟨g, cap, cur, rfl, _, hh, _⟩
  · cases hb : x.ownBlock with
    | none => exact .inl rfl
    | some k => exact .inr (by simp [Value.ownBlock])
  · rcases hx.2 with ⟨rfl, _⟩ | ⟨g', cap', cur', rfl, _, hh', _⟩
    · exact .inl rfl
    · refine .inr fun e => ?_
      have : g' = g := by simpa [Value.ownBlock] using e
      subst this
      rw [hh] at hh'
      injection hh' with hh'
      injection hh' with _ ht
      exact absurd ht (by decide)
/-- Maps stay, whatever is written to a row of maps. -/
theorem ownM_kept {lo' : Nat} {u u' : Value} {t f : List Int} {n : Nat} {vs : List Value} (h : OwnM w lo' u u' t f) (hv : w.ownsRow lo 35 2 v n vs) (hg : w.grownBy w' v.ownBlock) : OwnM w' lo' u u' t f :=
  ⟨own_kept h.turn hv hg, own_kept h.flip hv hg, h.apart⟩
theorem Maps.kept {lo' : Nat} {us vs : List Value} {n : Nat} (h : Maps w lo' us ms) (hv : w.ownsRow lo 35 2 v n vs) (hg : w.grownBy w' v.ownBlock) : Maps w' lo' us ms :=
  h.all fun o => ownM_kept o hv hg
theorem RowM.nil_ (w : World) (lo : Nat) : RowM w lo (.slice none 0 0) [] := ⟨[], World.ownsRow_nil w lo _ _, trivial⟩
theorem RowM.new_ (h : lo ≤ w.heap.size) : RowM (w.alloc (.cells #[] 35)) lo (.slice (some ⟨w.heap.size, 0, none⟩) 0 0) [] :=
  ⟨[], World.ownsRow_lit w #[] 0 h (Nat.zero_le _) rfl, trivial⟩
theorem RowM.below (h : RowM w lo v ms) (hb : Below w.heap.size w w') : RowM w' lo v ms := by
  obtain ⟨vs, ho, hm⟩ := h
  exact ⟨vs, World.ownsRow.kept ho (row := none) ⟨hb.os, hb.tape, hb.output, hb.size, fun k hk _ => hb.block k hk⟩ (by cases v.ownBlock <;> simp), hm.below hb⟩
theorem RowM.mono (h : RowM w lo v ms) (hh : lo' ≤ lo) : RowM w lo' v ms := by
  obtain ⟨vs, ho, hm⟩ := h
  refine ⟨vs, ?_, hm.mono hh⟩
  obtain ⟨h1, h2⟩ := ho
  refine ⟨h1, ?_⟩
  rcases h2 with h2 | ⟨g, cap, cur, hv, hg, r⟩
  · exact .inl h2
  · exact .inr ⟨g, cap, cur, hv, by omega, r⟩
/-- What such a value looks like. -/
theorem RowM.form (h : RowM w lo v ms) {n : Nat} (hn : ms.length = n) : ∃ A c, v = .slice A n c ∧ n ≤ maxLen := by
  obtain ⟨vs, ho, _⟩ := h
  subst hn
  rcases ho.2 with ⟨rfl, hn⟩ | ⟨g, cap, cur, rfl, _, _, hn, hm, _⟩
  · exact ⟨none, 0, by rw [hn], by rw [hn]; exact Nat.zero_le _⟩
  · exact ⟨_, cap, rfl, Nat.le_trans hn hm⟩
/-- More maps at its end (behind wpList_append_own). -/
theorem RowM.more {vs us : List Value} {ns : List (List Int × List Int)} {v1 : Value} {w1 : World} (hv : w.ownsRow lo 35 2 v ms.length vs) (hm : Maps w lo vs ms) (hn : Maps w lo us ns)
    (ho : w1.ownsRow lo 35 2 v1 (ms.length + ns.length) (vs ++ us)) (hg : w.grownBy w1 v.ownBlock) : RowM w1 lo v1 (ms ++ ns) :=
  ⟨vs ++ us, by rw [List.length_append]; exact ho, (hn.kept hv hg).app (hm.kept hv hg)⟩
/-- A map of the row, in memory. -/
theorem RowM.cells (h : RowM w lo v ms) {g n cap : Nat} (he : v = .slice (some ⟨g, 0, none⟩) n cap) {j : Nat} (hj : j < ms.length) :
    ∃ u u', w.cell? ⟨g, j * 2, none⟩ = some u ∧ w.cell? ⟨g, j * 2 + 1, none⟩ = some u' ∧ OwnM w lo u u' (ms[j]).1 (ms[j]).2 := by
  obtain ⟨vs, ho, hm⟩ := h
  obtain ⟨u, u', h1, h2, h3⟩ := hm.at_ hj
  have hz : ∀ k, (⟨g, 0, none⟩ : Addr).add k = ⟨g, k, none⟩ := fun k => by unfold Addr.add; split <;> simp_all
  exact ⟨u, u', by rw [← hz]; exact ho.cells (g := g) (by rw [he]; rfl) _ _ h1, by rw [← hz]; exact ho.cells (g := g) (by rw [he]; rfl) _ _ h2, h3⟩
end

end Go.Proofs.Ytakckkmhhedfpaa

namespace Go.Proofs.Ytakckkmhhedfpaa

theorem asc_filter {n : Nat} {l : List (MV n)} (h : Asc l) (p : MV n → Bool) : Asc (l.filter p) := List.Pairwise.sublist List.filter_sublist h

/-- The list, sorted, its repeats struck, is the list put in one after the other. -/
theorem sorted_put {n : Nat} {raw s : List (MV n)} (hp : ∀ x, x ∈ s ↔ x ∈ raw) (hs : s.Pairwise (fun a b => ¬ b.cmp a < 0)) :
    compM s = raw.foldl (fun a x => putM x a) [] := by
  refine asc_ext (asc_compM hs) (asc_fold raw (by simp [Asc])) fun x => ?_
  rw [mem_compM, mem_fold, hp]
  simp

/-- And with a genus told of each form (H), which is the genus told of what it is a form of (G). -/
theorem sorted_put_of {n : Nat} {β : Type} (L : List β) (V : β → Bool) (F : β → MV n) (G : β → Int) (H : MV n → Int) (g : Int)
    (hGH : ∀ t ∈ L, V t = true → H (F t) = G t) {s : List (MV n)} (hp : ∀ x, x ∈ s ↔ x ∈ (L.filter V).map F)
    (hs : s.Pairwise (fun a b => ¬ b.cmp a < 0)) :
    (compM s).filter (fun x => H x == g) = ((L.filter (fun t => V t && (G t == g))).map F).foldl (fun a x => putM x a) [] := by
  refine asc_ext (asc_filter (asc_compM hs) _) (asc_fold _ (by simp [Asc])) fun x => ?_
  rw [List.mem_filter, mem_compM, mem_fold, hp]
  simp only [List.mem_map, List.mem_filter, beq_iff_eq, Bool.and_eq_true, List.not_mem_nil, or_false]
  constructor
  · rintro ⟨⟨t, ⟨h1, h2⟩, rfl⟩, h3⟩
    exact ⟨t, ⟨h1, h2, (hGH t h1 h2).symm.trans h3⟩, rfl⟩
  · rintro ⟨t, ⟨h1, h2, h3⟩, rfl⟩
    exact ⟨⟨t, ⟨h1, h2⟩, rfl⟩, (hGH t h1 h2).trans h3⟩

/-- How many of a list that is put in: at most as many as were put. -/
theorem len_putM {n : Nat} {x : MV n} : ∀ {l : List (MV n)}, (putM x l).length ≤ l.length + 1
  | [] => by simp [putM]
  | a :: l => by
    rw [putM]
    split
    · simpa using len_putM (x := x) (l := l)
    · split
      · simp
      · simp
theorem len_fold {n : Nat} (l : List (MV n)) : ∀ {acc : List (MV n)}, (l.foldl (fun a x => putM x a) acc).length ≤ acc.length + l.length := by
  induction l with
  | nil => intro acc; simp
  | cons x l ih =>
    intro acc
    rw [List.foldl_cons]
    have h1 := ih (acc := putM x acc)
    have h2 := len_putM (x := x) (l := acc)
    simp only [List.length_cons]
    omega
/-- Where the program puts a map in: the place k at which the list stops being less. -/
def placeM {n : Nat} (x : MV n) : List (MV n) → Nat
  | [] => 0
  | a :: l => if a.cmp x < 0 then placeM x l + 1 else 0
theorem placeM_le {n : Nat} (x : MV n) : ∀ l : List (MV n), placeM x l ≤ l.length
  | [] => by simp [placeM]
  | a :: l => by
    rw [placeM]
    split
    · have := placeM_le x l
      simp only [List.length_cons]; omega
    · simp
theorem placeM_lt {n : Nat} (x : MV n) : ∀ {l : List (MV n)} {i : Nat} (h : i < l.length), i < placeM x l → (l[i]).cmp x < 0
  | [], _, h, _ => by simp at h
  | a :: l, i, h, hi => by
    rw [placeM] at hi
    split at hi
    · rename_i h1
      cases i with
      | zero => exact h1
      | succ i =>
        simp only [List.getElem_cons_succ]
        exact placeM_lt x (by simpa using h) (by omega)
    · omega
theorem placeM_at {n : Nat} (x : MV n) : ∀ {l : List (MV n)} (h : placeM x l < l.length), ¬ (l[placeM x l]).cmp x < 0
  | [], h => by simp at h
  | a :: l, h => by
    by_cases h1 : a.cmp x < 0
    · have e : placeM x (a :: l) = placeM x l + 1 := by rw [placeM, if_pos h1]
      simp only [e, List.getElem_cons_succ]
      exact placeM_at x (by rw [e] at h; simpa using h)
    · have e : placeM x (a :: l) = 0 := by rw [placeM, if_neg h1]
      simp only [e, List.getElem_cons_zero]
      exact h1
/-- The place is told by what stands ahead of it and at it. -/
theorem placeM_is {n : Nat} (x : MV n) {l : List (MV n)} {k : Nat} (hk : k ≤ l.length) (h1 : ∀ i (h : i < l.length), i < k → (l[i]).cmp x < 0)
    (h2 : ∀ h : k < l.length, ¬ (l[k]).cmp x < 0) : placeM x l = k := by
  have a := placeM_le x l
  rcases Nat.lt_trichotomy (placeM x l) k with h | h | h
  · exact absurd (h1 _ (by omega) h) (placeM_at x (by omega))
  · exact h
  · exact absurd (placeM_lt x (by omega) h) (h2 (by omega))
/-- What putM gives, by the place. -/
theorem putM_at {n : Nat} (x : MV n) : ∀ l : List (MV n), putM x l = if h : placeM x l < l.length then
      (if (l[placeM x l]).cmp x = 0 then l else l.take (placeM x l) ++ x :: l.drop (placeM x l))
    else l.take (placeM x l) ++ x :: l.drop (placeM x l)
  | [] => by simp [putM, placeM]
  | a :: l => by
    rw [putM]
    by_cases h1 : a.cmp x < 0
    · have e : placeM x (a :: l) = placeM x l + 1 := by rw [placeM, if_pos h1]
      rw [if_pos h1, putM_at x l]
      simp only [e, List.length_cons, Nat.add_lt_add_iff_right, List.getElem_cons_succ, List.take_succ_cons, List.drop_succ_cons, List.cons_append]
      split
      · split <;> rfl
      · rfl
    · have e : placeM x (a :: l) = 0 := by rw [placeM, if_neg h1]
      rw [if_neg h1]
      simp only [e, List.length_cons, List.getElem_cons_zero, List.take_zero, List.drop_zero, List.nil_append]
      rw [dif_pos (by omega)]

end Go.Proofs.Ytakckkmhhedfpaa

namespace Go.Proofs.Ytakckkmhhedfpaa
open Go.RowKit

theorem Maps.oneCell {w : World} {lo : Nat} : ∀ {vs : List Value} {ms : List (List Int × List Int)}, Maps w lo vs ms → ∀ u ∈ vs, u.oneCell' = true
  | [], [], _ => fun u hu => by simp at hu
  | u :: u' :: vs, m :: ms, h => fun v hv => by
    obtain ⟨A, c, e1, -⟩ := h.1.turn.form
    obtain ⟨A', c', e2, -⟩ := h.1.flip.form
    rcases List.mem_cons.1 hv with e | hv
    · rw [e, e1]; rfl
    · rcases List.mem_cons.1 hv with e | hv
      · rw [e, e2]; rfl
      · exact Maps.oneCell h.2 v hv
  | [], _ :: _, h => h.elim
  | [_], [], h => h.elim
  | [_], _ :: _, h => h.elim
  | _ :: _ :: _, [], h => h.elim
theorem cells_two (w : World) (u u' : Value) (t : TypeId) : ∀ (j : Nat) (v : Value), [u, u'][j]? = some v → (w.alloc (.cells #[u, u'] t)).cell? ((⟨w.heap.size, 0, none⟩ : Addr).add j) = some v := by
  intro j v hj
  have e : (⟨w.heap.size, 0, none⟩ : Addr).add j = ⟨w.heap.size, j, none⟩ := by unfold Addr.add; split <;> simp_all
  rw [e, cell_of_row _ w.heap.size j _ _ (0, 0) (heap_alloc_new w _)]
  simpa using hj
def MV.pr {n : Nat} (m : MV n) : List Int × List Int := (m.t, m.f)

theorem info_maps : (Try.prog.info? 35).map (fun i => (i.zero, i.size, i.bytes)) = some (some (.agg #[.slice none 0 0, .slice none 0 0]), 2, 48) := by kernel_rfl

theorem put_row {n : Nat} {ms : List (MV n)} {x : MV n} {w w3 : World} {lo base N i : Nat} {vs cells : List Value} {u u' v3 : Value} (hm : Maps w lo vs (ms.map MV.pr)) (hox : OwnM w lo u u' x.t x.f) (hb : Below w.heap.size w w3) (hlo : lo ≤ base)
    (ho : w3.ownsRow base 35 2 v3 N cells) (hN : N = ms.length + 1) (hc : cells = vs.take (i * 2) ++ ([u, u'] ++ vs.drop (i * 2))) (hi : i ≤ ms.length) (hp : putM x ms = ms.take i ++ x :: ms.drop i) :
    ∃ g' c', v3 = .slice (some ⟨g', 0, none⟩) (putM x ms).length c' ∧ RowM w3 lo (.slice (some ⟨g', 0, none⟩) (putM x ms).length c') ((putM x ms).map MV.pr) := by
  have hl : (putM x ms).length = N := by rw [hp, hN]; simp only [List.length_append, List.length_cons, List.length_take, List.length_drop]; omega
  have hM : Maps w3 lo cells ((putM x ms).map MV.pr) := by
    have h := hm.below hb
    have e : (putM x ms).map MV.pr = (ms.map MV.pr).take i ++ ([(x.t, x.f)] ++ (ms.map MV.pr).drop i) := by
      rw [hp, List.map_append, List.map_cons, List.map_take, List.map_drop]; rfl
    rw [hc, e]
    exact ((h.drop i).app (Maps.one (hox.below hb))).app (h.take i)
  obtain ⟨h1, h2⟩ := ho
  rcases h2 with ⟨_, e⟩ | ⟨g, cap, cur, rfl, hg, r⟩
  · omega
  · refine ⟨g, cap, by rw [hl], cells, ?_, hM⟩
    rw [List.length_map, hl]
    exact ⟨h1, .inr ⟨g, cap, cur, rfl, by omega, r⟩⟩

set_option maxHeartbeats 1600000 in
theorem l3Put_any {n : Nat} (hn : n ≤ 12) (ms : List (MV n)) (x : MV n) (g k c lo : Nat) (B B' : Option Addr) (d d' : Nat) (w : World) (h : RowM w lo (.slice (some ⟨g, 0, none⟩) k c) (ms.map MV.pr)) (hk : ms.length = k) (hkc : k ≤ 1048576)
    (hx : Rd w B n x.t) (hx' : Rd w B' n x.f) (hlo : lo ≤ w.heap.size) (hox : OwnM w lo (.slice B n d) (.slice B' n d') x.t x.f) :
    Calls Try.prog 67 #[.slice (some ⟨g, 0, none⟩) k c, .agg #[.slice B n d, .slice B' n d']] w fun e w' => ∃ g' c', e = .returned (.slice (some ⟨g', 0, none⟩) (putM x ms).length c') ∧ RowM w' lo (.slice (some ⟨g', 0, none⟩) (putM x ms).length c') ((putM x ms).map MV.pr) ∧ Below w.heap.size w w' := by
  obtain ⟨i0, hinf, hz0, hz1, hz2⟩ := info_parts info_maps
  have H := Lib.hid h; have HX := Lib.hid hx; have HX' := Lib.hid hx'; have HK := Lib.hid hk; have HOX := Lib.hid hox; clear h hx hx' hox hk
  obtain ⟨W0, hW0, hb0, hbl, hsz⟩ := Box.local_ w 35 (.slice B n d) (.slice B' n d')
  have HB0 := Lib.hid hb0; have HBL := Lib.hid hbl; have HSZ := Lib.hid hsz; clear hb0 hbl hsz
  have hP := placeM_le x ms
  rw [HK.out] at hP
  have HAT : Hid (∀ (p : World), Below W0.heap.size W0 p → ∀ i, i < k → ∃ A A' c c', p.cell? ⟨g, i * 2, none⟩ = some (.slice A n c) ∧ p.cell? ⟨g, i * 2 + 1, none⟩ = some (.slice A' n c') ∧ Rd p A n (ms.getD i x).t ∧ Rd p A' n (ms.getD i x).f) := by
    intro p hp i hi
    obtain ⟨u, u', h1, h2, h3⟩ := ((H.out.below HBL.out).below hp).cells rfl (j := i) (by simpa [HK.out] using hi)
    obtain ⟨A, c, A', c', rfl, rfl, r1, r2⟩ := h3.form (n := n) (n' := n) (by simp [MV.pr, MV.ht]) (by simp [MV.pr, MV.hf])
    have hg : ms.getD i x = ms[i]'(by rw [HK.out]; exact hi) := by simp [List.getD, HK.out, hi]
    refine ⟨A, A', c, c', h1, h2, ?_, ?_⟩
    · rw [hg]; simpa [MV.pr] using r1
    · rw [hg]; simpa [MV.pr] using r2
  go_enter Try.func67, Try.ntmps67
  go_wp2_with fail
  go_loopw [5] (fun iv wz => ∃ (i : Nat) (z : Int), iv = .int .i64 z ∧ z = (i : Int) ∧ i ≤ placeM x ms ∧ Hid (Below W0.heap.size W0 wz)) (fun iv _ => ((k : Int) - (intOf iv)).toNat)
  case atStart => exact ⟨0, _, rfl, rfl, by omega, (Below.refl _ _)⟩
  case round =>
    obtain ⟨i, z, rfl, rfl, hi, hbr⟩ := hrel
    have hglt : g < wr.heap.size := by
      obtain ⟨vs, ho, -⟩ := (H.out.below HBL.out).below hbr.out
      exact (ho.lt g rfl).2
    have b0 : ∀ p : Above wr, p.to.cell? ⟨w.heap.size, 0, none⟩ = some (.slice B n d) := fun p => ((HB0.out.below hbr.out).below p.b).cell0
    have b1 : ∀ p : Above wr, p.to.cell? ⟨w.heap.size, 1, none⟩ = some (.slice B' n d') := fun p => ((HB0.out.below hbr.out).below p.b).cell1
    have HRX : Hid (∀ p : Above wr, Rd p.to B n x.t) := fun p => ((HX.out.below HBL.out).below hbr.out).below p.b
    have HRX' : Hid (∀ p : Above wr, Rd p.to B' n x.f) := fun p => ((HX'.out.below HBL.out).below hbr.out).below p.b
    by_cases hlt : i < placeM x ms
    · have hik : i < k := by omega
      obtain ⟨A, A', cA, cA', h1, h2, r1, r2⟩ := HAT.out wr hbr.out i hik
      have q1 : ∀ p : Above wr, p.to.cell? ⟨g, i * 2, none⟩ = some (.slice A n cA) := fun p => (p.b.cell (p := ⟨g, i * 2, none⟩) hglt).trans h1
      have q2 : ∀ p : Above wr, p.to.cell? ⟨g, i * 2 + 1, none⟩ = some (.slice A' n cA') := fun p => (p.b.cell (p := ⟨g, i * 2 + 1, none⟩) hglt).trans h2
      have HR1 : Hid (∀ p : Above wr, Rd p.to A n (ms.getD i x).t) := fun p => r1.below p.b
      have HR2 : Hid (∀ p : Above wr, Rd p.to A' n (ms.getD i x).f) := fun p => r2.below p.b
      have hc : (ms.getD i x).cmp x < 0 := by
        have := placeM_lt x (l := ms) (i := i) (by rw [HK.out]; exact hik) hlt
        simpa [List.getD, HK.out, hik] using this
      obtain ⟨r, hr⟩ : ∃ r, cmpM (ms.getD i x).t (ms.getD i x).f x.t x.f = r := ⟨_, rfl⟩
      rw [MV.cmp, hr] at hc
      have hd : decide (r < 0) = true := by simpa using hc
      have hki : (i : Int) < (k : Int) := by omega
      have HR := Lib.hid hr; have HHC := Lib.hid hc
      clear hr h1 h2 r1 r2 hc
      go_wp2_with fail
      (refine wp_region_quiet_above (by kernel_rfl) (by kernel_rfl) ?_; (repeat (quiet_step (first | (go_at_call 81; refine Above.calls (l2Before_lit _ A A' B B' n cA cA' d d' _ _ _ _ (HR1.out _) (HR2.out _) (HRX.out _) (HRX'.out _) hn HR.out))))); refine wpQuiet_nil ?_; intro _ hw'; obtain ⟨pq, hw''⟩ := hw'; subst hw'')
      go_wp2_with fail
      go_roundw
      case rel => exact ⟨i + 1, _, rfl, by go_num, by omega, hbr.out.trans (pq.b.mono hbr.out.size)⟩
      case measure => simp [intOf]; omega
    · obtain ⟨vs, ho, hmv⟩ := H.out
      have hvl := ho.1
      have hkc2 : k ≤ c := by
        rcases ho.2 with ⟨e, _⟩ | ⟨g', cap, cur, e, _, _, hh, _⟩
        · cases e
        · injection e with _ _ e; omega
      rw [List.length_map, HK.out] at hvl
      have HO := Lib.hid ho; have HM := Lib.hid hmv; have HVL := Lib.hid hvl; clear ho hmv hvl
      have hie : i = placeM x ms := by omega
      by_cases hik : i < k
      · obtain ⟨A, A', cA, cA', h1, h2, r1, r2⟩ := HAT.out wr hbr.out i hik
        have q1 : ∀ p : Above wr, p.to.cell? ⟨g, i * 2, none⟩ = some (.slice A n cA) := fun p => (p.b.cell (p := ⟨g, i * 2, none⟩) hglt).trans h1
        have q2 : ∀ p : Above wr, p.to.cell? ⟨g, i * 2 + 1, none⟩ = some (.slice A' n cA') := fun p => (p.b.cell (p := ⟨g, i * 2 + 1, none⟩) hglt).trans h2
        have HR1 : Hid (∀ p : Above wr, Rd p.to A n (ms.getD i x).t) := fun p => r1.below p.b
        have HR2 : Hid (∀ p : Above wr, Rd p.to A' n (ms.getD i x).f) := fun p => r2.below p.b
        have hc : ¬ (ms.getD i x).cmp x < 0 := by
          have := placeM_at x (l := ms) (by rw [HK.out]; omega)
          have e : ms.getD i x = ms[placeM x ms]'(by rw [HK.out]; omega) := by
            have hik2 : placeM x ms < ms.length := by rw [HK.out]; omega
            have e : ms.getD (placeM x ms) x = ms[placeM x ms]'hik2 := by rw [List.getD, List.getElem?_eq_getElem hik2]; rfl
            rw [← e, hie]
          rw [e]; exact this
        obtain ⟨r, hr⟩ : ∃ r, cmpM (ms.getD i x).t (ms.getD i x).f x.t x.f = r := ⟨_, rfl⟩
        rw [MV.cmp, hr] at hc
        have hd : decide (r < 0) = false := by simpa using hc
        have hki : (i : Int) < (k : Int) := by omega
        have HR := Lib.hid hr; have HHC := Lib.hid hc; have HIE := Lib.hid hie
        clear hr h1 h2 r1 r2 hc hie
        go_wp2_with fail
        (refine wp_region_quiet_above (by kernel_rfl) (by kernel_rfl) ?_; (repeat (quiet_step (first | (go_at_call 81; refine Above.calls (l2Before_lit _ A A' B B' n cA cA' d d' _ _ _ _ (HR1.out _) (HR2.out _) (HRX.out _) (HRX'.out _) hn HR.out))))); refine wpQuiet_nil ?_; intro _ hw'; obtain ⟨pq, hw''⟩ := hw'; subst hw'')
        go_wp2_with fail
        rename Above wr => pq_1
        have b2 : ∀ p : Above pq_1.to, p.to.cell? ⟨w.heap.size, 0, none⟩ = some (.slice B n d) := fun p => b0 ⟨p.to, pq_1.b.trans (p.b.mono pq_1.b.size)⟩
        have b3 : ∀ p : Above pq_1.to, p.to.cell? ⟨w.heap.size, 1, none⟩ = some (.slice B' n d') := fun p => b1 ⟨p.to, pq_1.b.trans (p.b.mono pq_1.b.size)⟩
        have q3 : ∀ p : Above pq_1.to, p.to.cell? ⟨g, i * 2, none⟩ = some (.slice A n cA) := fun p => q1 ⟨p.to, pq_1.b.trans (p.b.mono pq_1.b.size)⟩
        have q4 : ∀ p : Above pq_1.to, p.to.cell? ⟨g, i * 2 + 1, none⟩ = some (.slice A' n cA') := fun p => q2 ⟨p.to, pq_1.b.trans (p.b.mono pq_1.b.size)⟩
        have HS1 : Hid (∀ p : Above pq_1.to, Rd p.to A n (ms.getD i x).t) := fun p => HR1.out ⟨p.to, pq_1.b.trans (p.b.mono pq_1.b.size)⟩
        have HS2 : Hid (∀ p : Above pq_1.to, Rd p.to A' n (ms.getD i x).f) := fun p => HR2.out ⟨p.to, pq_1.b.trans (p.b.mono pq_1.b.size)⟩
        have HSX : Hid (∀ p : Above pq_1.to, Rd p.to B n x.t) := fun p => HRX.out ⟨p.to, pq_1.b.trans (p.b.mono pq_1.b.size)⟩
        have HSX' : Hid (∀ p : Above pq_1.to, Rd p.to B' n x.f) := fun p => HRX'.out ⟨p.to, pq_1.b.trans (p.b.mono pq_1.b.size)⟩
        clear b0 b1 q1 q2
        by_cases hr0 : r = 0
        · have hd0 : (r == 0) = true := by simpa using hr0
          have HR0 := Lib.hid hr0; clear hr0
          (refine wp_region_quiet_above (by kernel_rfl) (by kernel_rfl) ?_; (repeat (quiet_step (first | (go_at_call 81; refine Above.calls (l2Before_lit _ A A' B B' n cA cA' d d' _ _ _ _ (HS1.out _) (HS2.out _) (HSX.out _) (HSX'.out _) hn HR.out))))); refine wpQuiet_nil ?_; intro _ hw'; obtain ⟨pq, hw''⟩ := hw'; subst hw'')
          go_wp2_with fail
          go_ret
          have HPUT : putM x ms = ms := by
            have hl : placeM x ms < ms.length := by rw [HK.out, ← HIE.out]; exact hik
            have e0 : (ms[placeM x ms]'hl).cmp x = 0 := by
              have e : ms.getD i x = ms[placeM x ms]'hl := by rw [List.getD, HIE.out, List.getElem?_eq_getElem hl]; rfl
              rw [← e, MV.cmp, HR.out]; exact HR0.out
            rw [putM_at, dif_pos hl, if_pos e0]
          have hbz : Below W0.heap.size W0 pq.to := (hbr.out.trans (pq_1.b.mono hbr.out.size)).trans (pq.b.mono (Nat.le_trans hbr.out.size pq_1.b.size))
          have hbz2 := HBL.out.trans (hbz.mono HBL.out.size)
          rw [HPUT, HK.out]
          exact ⟨g, c, rfl, H.out.below hbz2, hbz2⟩
        · have hd0 : (r == 0) = false := by simpa using hr0
          have HR0 := Lib.hid hr0; clear hr0
          (refine wp_region_quiet_above (by kernel_rfl) (by kernel_rfl) ?_; (repeat (quiet_step (first | (go_at_call 81; refine Above.calls (l2Before_lit _ A A' B B' n cA cA' d d' _ _ _ _ (HS1.out _) (HS2.out _) (HSX.out _) (HSX'.out _) hn HR.out))))); refine wpQuiet_nil ?_; intro _ hw'; obtain ⟨pq, hw''⟩ := hw'; subst hw'')
          have HPUT : Hid (putM x ms = ms.take i ++ x :: ms.drop i) := by
            have hl : placeM x ms < ms.length := by rw [HK.out, ← HIE.out]; exact hik
            have e0 : ¬ (ms[placeM x ms]'hl).cmp x = 0 := by
              have e : ms.getD i x = ms[placeM x ms]'hl := by rw [List.getD, HIE.out, List.getElem?_eq_getElem hl]; rfl
              rw [← e, MV.cmp, HR.out]; exact HR0.out
            rw [Hid, putM_at, dif_pos hl, if_neg e0, ← HIE.out]
          have hic : i ≤ c := by omega
          have hic2 : (i : Int) ≤ (c : Int) := by omega
          have hik2 : (i : Int) ≤ (k : Int) := by omega
          have HBW : Hid (Below W0.heap.size W0 pq.to) := (hbr.out.trans (pq_1.b.mono hbr.out.size)).trans (pq.b.mono (Nat.le_trans hbr.out.size pq_1.b.size))
          clear b2 b3 q3 q4 HS1 HS2 HSX HSX' HR1 HR2 HRX HRX'
          generalize pq.to = W1 at *
          have hW1 := HBW.out.size
          have HE : Hid ((W1.alloc (.cells #[] 35)).ownsRow W0.heap.size 35 2 (.slice (some ⟨W1.heap.size, 0, none⟩) 0 0) 0 []) := World.ownsRow_lit W1 #[] 0 hW1 (Nat.zero_le _) rfl
          have HBA : Hid (Below W0.heap.size W0 (W1.alloc (.cells #[] 35))) := HBW.out.alloc hW1 _
          have HCS : Hid (∀ p, Below W0.heap.size W0 p → ∀ j u, vs[j]? = some u → p.cell? ⟨g, j, none⟩ = some u) := by
            intro p hp j u hu
            have e : (⟨g, 0, none⟩ : Addr).add j = ⟨g, j, none⟩ := by unfold Addr.add; split <;> simp_all
            have h0 := HO.out.cells (g := g) rfl j u hu
            have hg0 := (HO.out.lt g rfl).2
            rw [e] at h0
            exact (hp.cell (p := ⟨g, j, none⟩) (by have := HSZ.out; show g < W0.heap.size; omega)).trans ((HBL.out.cell (p := ⟨g, j, none⟩) hg0).trans h0)
          have HLN : Hid ((vs.take (i * 2)).length = i * 2) := by rw [Hid, List.length_take, HVL.out]; omega
          have HNW : Hid (∀ j u, (vs.take (i * 2))[j]? = some u → (W1.alloc (.cells #[] 35)).cell? ((⟨g, 0, none⟩ : Addr).add j) = some u) := by
            intro j u hu
            have e : (⟨g, 0, none⟩ : Addr).add j = ⟨g, j, none⟩ := by unfold Addr.add; split <;> simp_all
            rw [e]
            rw [List.getElem?_take] at hu
            split at hu
            · exact HCS.out _ HBA.out j u hu
            · cases hu
          have HLD : Hid ((vs.drop (i * 2)).length = (k - i) * 2) := by rw [Hid, List.length_drop, HVL.out]; omega
          have HDR : Hid (∀ p, Below W0.heap.size W0 p → ∀ ad : Addr, (ad = ⟨g, i * 2, none⟩ ∨ i = k) → ∀ j u, (vs.drop (i * 2))[j]? = some u → p.cell? (ad.add j) = some u) := by
            intro p hp ad had j u hu
            rcases had with rfl | had
            rotate_left
            · have := (List.getElem?_eq_some_iff.1 hu).1
              rw [List.length_drop, HVL.out] at this
              omega
            have e : (⟨g, i * 2, none⟩ : Addr).add j = ⟨g, i * 2 + j, none⟩ := by unfold Addr.add; split <;> simp_all
            rw [e]
            rw [List.getElem?_drop] at hu
            exact HCS.out _ hp _ u hu
          have hci : ¬ c = i := by omega
          have HU1 : Hid (∀ u ∈ vs, u.oneCell' = true) := HM.out.oneCell
          go_wp2_with (first
            | (at_builtin; refine wpList_append_own _ rfl (.tmp 36) (.tmp 39) 24 rfl W0.heap.size 35 i0 (.agg #[.slice none 0 0, .slice none 0 0]) 2 48 Try.underlying24 hinf hz0 hz1 hz2 rfl (by decide) _ 0 [] rfl HE.out ⟨g, 0, none⟩ i _ (vs.take (i * 2)) rfl HLN.out HNW.out (fun u hu => HU1.out u (List.mem_of_mem_take hu)) (by unfold maxLen; omega) (by omega) (by simp; omega) ?_; intro v1 w1 hown1 hgrow1 _; have HO1 := Lib.hid hown1; have HB1 : Hid (Below W0.heap.size W0 w1) := HBA.out.grown hgrow1 (by simp; omega) (fun q hq => (HE.out.lt q hq).1); clear hown1 hgrow1; have x0 := (HB0.out.below HB1.out).cell0; have x1 := (HB0.out.below HB1.out).cell1; have hs1 := HB1.out.size)
            | (at_builtin; refine wpList_append_own _ rfl (.tmp 41) (.tmp 43) 24 rfl W0.heap.size 35 i0 (.agg #[.slice none 0 0, .slice none 0 0]) 2 48 Try.underlying24 hinf hz0 hz1 hz2 rfl (by decide) _ _ _ rfl (HO1.out.alloc _) ⟨w1.heap.size, 0, none⟩ 1 1 [.slice B n d, .slice B' n d'] rfl rfl (cells_two _ _ _ _) (by intro u hu; simp at hu; rcases hu with rfl | rfl <;> rfl) (by unfold maxLen; omega) (by omega) (by simp; omega) ?_; intro v2 w2 hown2 hgrow2 _; have HO2 := Lib.hid hown2; have HB2 : Hid (Below W0.heap.size W0 w2) := (HB1.out.alloc hs1 _).grown hgrow2 (by simp; omega) (fun q hq => (HO1.out.lt q hq).1); clear hown2 hgrow2; have hs2 := HB2.out.size)
            | (at_builtin; refine wpList_append_own _ rfl (.tmp 45) (.tmp 48) 24 rfl W0.heap.size 35 i0 (.agg #[.slice none 0 0, .slice none 0 0]) 2 48 Try.underlying24 hinf hz0 hz1 hz2 rfl (by decide) _ _ _ rfl HO2.out _ (k - i) _ (vs.drop (i * 2)) rfl HLD.out (HDR.out _ HB2.out _ (by first | exact .inl rfl | exact .inr HEK.out)) (fun u hu => HU1.out u (List.mem_of_mem_drop hu)) (by unfold maxLen; omega) (by omega) (by omega) ?_; intro v3 w3 hown3 hgrow3 _; have HO3 := Lib.hid hown3; have HB3 : Hid (Below W0.heap.size W0 w3) := HB2.out.grown hgrow3 (by omega) (fun q hq => (HO2.out.lt q hq).1); clear hown3 hgrow3)
            | fail)
          go_ret
          obtain ⟨g', c', e, hr3⟩ := put_row HM.out HOX.out (HBL.out.trans (HB3.out.mono HBL.out.size)) (show lo ≤ W0.heap.size by have := HSZ.out; omega) HO3.out (by rw [HK.out]; omega) (by simp) (by rw [HK.out]; omega) HPUT.out
          subst e
          exact ⟨g', c', rfl, hr3, HBL.out.trans (HB3.out.mono HBL.out.size)⟩
      · have hki : decide (i < k) = false := by simp; omega
        have HPUT : Hid (putM x ms = ms.take i ++ x :: ms.drop i) := by
          have hl : ¬ placeM x ms < ms.length := by rw [HK.out, ← hie]; exact hik
          rw [Hid, putM_at, dif_neg hl, ← hie]
        have HEK : Hid (i = k) := by rw [Hid]; omega
        clear hie hik
        go_wp2_with fail
        (refine wp_region_quiet_above (by kernel_rfl) (by kernel_rfl) ?_; (repeat (quiet_step (first | fail))); refine wpQuiet_nil ?_; intro _ hw'; obtain ⟨pq, hw''⟩ := hw'; subst hw'')
        go_wp2_with fail
        rename Above wr => pq_1
        (refine wp_region_quiet_above (by kernel_rfl) (by kernel_rfl) ?_; (repeat (quiet_step (first | fail))); refine wpQuiet_nil ?_; intro _ hw'; obtain ⟨pq, hw''⟩ := hw'; subst hw'')
        by_cases hci : c = i
        · have hci2 : (c : Int) = (i : Int) := by omega
          have hic : i ≤ c := by omega
          have hic2 : (i : Int) ≤ (c : Int) := by omega
          have hik2 : (i : Int) ≤ (k : Int) := by omega
          have HBW : Hid (Below W0.heap.size W0 pq.to) := (hbr.out.trans (pq_1.b.mono hbr.out.size)).trans (pq.b.mono (Nat.le_trans hbr.out.size pq_1.b.size))
          clear b0 b1 HRX HRX'
          generalize pq.to = W1 at *
          have hW1 := HBW.out.size
          have HE : Hid ((W1.alloc (.cells #[] 35)).ownsRow W0.heap.size 35 2 (.slice (some ⟨W1.heap.size, 0, none⟩) 0 0) 0 []) := World.ownsRow_lit W1 #[] 0 hW1 (Nat.zero_le _) rfl
          have HBA : Hid (Below W0.heap.size W0 (W1.alloc (.cells #[] 35))) := HBW.out.alloc hW1 _
          have HCS : Hid (∀ p, Below W0.heap.size W0 p → ∀ j u, vs[j]? = some u → p.cell? ⟨g, j, none⟩ = some u) := by
            intro p hp j u hu
            have e : (⟨g, 0, none⟩ : Addr).add j = ⟨g, j, none⟩ := by unfold Addr.add; split <;> simp_all
            have h0 := HO.out.cells (g := g) rfl j u hu
            have hg0 := (HO.out.lt g rfl).2
            rw [e] at h0
            exact (hp.cell (p := ⟨g, j, none⟩) (by have := HSZ.out; show g < W0.heap.size; omega)).trans ((HBL.out.cell (p := ⟨g, j, none⟩) hg0).trans h0)
          have HLN : Hid ((vs.take (i * 2)).length = i * 2) := by rw [Hid, List.length_take, HVL.out]; omega
          have HNW : Hid (∀ j u, (vs.take (i * 2))[j]? = some u → (W1.alloc (.cells #[] 35)).cell? ((⟨g, 0, none⟩ : Addr).add j) = some u) := by
            intro j u hu
            have e : (⟨g, 0, none⟩ : Addr).add j = ⟨g, j, none⟩ := by unfold Addr.add; split <;> simp_all
            rw [e]
            rw [List.getElem?_take] at hu
            split at hu
            · exact HCS.out _ HBA.out j u hu
            · cases hu
          have HLD : Hid ((vs.drop (i * 2)).length = (k - i) * 2) := by rw [Hid, List.length_drop, HVL.out]; omega
          have HDR : Hid (∀ p, Below W0.heap.size W0 p → ∀ ad : Addr, (ad = ⟨g, i * 2, none⟩ ∨ i = k) → ∀ j u, (vs.drop (i * 2))[j]? = some u → p.cell? (ad.add j) = some u) := by
            intro p hp ad had j u hu
            rcases had with rfl | had
            rotate_left
            · have := (List.getElem?_eq_some_iff.1 hu).1
              rw [List.length_drop, HVL.out] at this
              omega
            have e : (⟨g, i * 2, none⟩ : Addr).add j = ⟨g, i * 2 + j, none⟩ := by unfold Addr.add; split <;> simp_all
            rw [e]
            rw [List.getElem?_drop] at hu
            exact HCS.out _ hp _ u hu
          have HU1 : Hid (∀ u ∈ vs, u.oneCell' = true) := HM.out.oneCell
          go_wp2_with (first
            | (at_builtin; refine wpList_append_own _ rfl (.tmp 36) (.tmp 39) 24 rfl W0.heap.size 35 i0 (.agg #[.slice none 0 0, .slice none 0 0]) 2 48 Try.underlying24 hinf hz0 hz1 hz2 rfl (by decide) _ 0 [] rfl HE.out ⟨g, 0, none⟩ i _ (vs.take (i * 2)) rfl HLN.out HNW.out (fun u hu => HU1.out u (List.mem_of_mem_take hu)) (by unfold maxLen; omega) (by omega) (by simp; omega) ?_; intro v1 w1 hown1 hgrow1 _; have HO1 := Lib.hid hown1; have HB1 : Hid (Below W0.heap.size W0 w1) := HBA.out.grown hgrow1 (by simp; omega) (fun q hq => (HE.out.lt q hq).1); clear hown1 hgrow1; have x0 := (HB0.out.below HB1.out).cell0; have x1 := (HB0.out.below HB1.out).cell1; have hs1 := HB1.out.size)
            | (at_builtin; refine wpList_append_own _ rfl (.tmp 41) (.tmp 43) 24 rfl W0.heap.size 35 i0 (.agg #[.slice none 0 0, .slice none 0 0]) 2 48 Try.underlying24 hinf hz0 hz1 hz2 rfl (by decide) _ _ _ rfl (HO1.out.alloc _) ⟨w1.heap.size, 0, none⟩ 1 1 [.slice B n d, .slice B' n d'] rfl rfl (cells_two _ _ _ _) (by intro u hu; simp at hu; rcases hu with rfl | rfl <;> rfl) (by unfold maxLen; omega) (by omega) (by simp; omega) ?_; intro v2 w2 hown2 hgrow2 _; have HO2 := Lib.hid hown2; have HB2 : Hid (Below W0.heap.size W0 w2) := (HB1.out.alloc hs1 _).grown hgrow2 (by simp; omega) (fun q hq => (HO1.out.lt q hq).1); clear hown2 hgrow2; have hs2 := HB2.out.size)
            | (at_builtin; refine wpList_append_own _ rfl (.tmp 45) (.tmp 48) 24 rfl W0.heap.size 35 i0 (.agg #[.slice none 0 0, .slice none 0 0]) 2 48 Try.underlying24 hinf hz0 hz1 hz2 rfl (by decide) _ _ _ rfl HO2.out _ (k - i) _ (vs.drop (i * 2)) rfl HLD.out (HDR.out _ HB2.out _ (by first | exact .inl rfl | exact .inr HEK.out)) (fun u hu => HU1.out u (List.mem_of_mem_drop hu)) (by unfold maxLen; omega) (by omega) (by omega) ?_; intro v3 w3 hown3 hgrow3 _; have HO3 := Lib.hid hown3; have HB3 : Hid (Below W0.heap.size W0 w3) := HB2.out.grown hgrow3 (by omega) (fun q hq => (HO2.out.lt q hq).1); clear hown3 hgrow3)
            | fail)
          go_ret
          obtain ⟨g', c', e, hr3⟩ := put_row HM.out HOX.out (HBL.out.trans (HB3.out.mono HBL.out.size)) (show lo ≤ W0.heap.size by have := HSZ.out; omega) HO3.out (by rw [HK.out]; omega) (by simp) (by rw [HK.out]; omega) HPUT.out
          subst e
          exact ⟨g', c', rfl, hr3, HBL.out.trans (HB3.out.mono HBL.out.size)⟩
        · have hci2 : ¬ (c : Int) = (i : Int) := by omega
          have hic : i ≤ c := by omega
          have hic2 : (i : Int) ≤ (c : Int) := by omega
          have hik2 : (i : Int) ≤ (k : Int) := by omega
          have HBW : Hid (Below W0.heap.size W0 pq.to) := (hbr.out.trans (pq_1.b.mono hbr.out.size)).trans (pq.b.mono (Nat.le_trans hbr.out.size pq_1.b.size))
          clear b0 b1 HRX HRX'
          generalize pq.to = W1 at *
          have hW1 := HBW.out.size
          have HE : Hid ((W1.alloc (.cells #[] 35)).ownsRow W0.heap.size 35 2 (.slice (some ⟨W1.heap.size, 0, none⟩) 0 0) 0 []) := World.ownsRow_lit W1 #[] 0 hW1 (Nat.zero_le _) rfl
          have HBA : Hid (Below W0.heap.size W0 (W1.alloc (.cells #[] 35))) := HBW.out.alloc hW1 _
          have HCS : Hid (∀ p, Below W0.heap.size W0 p → ∀ j u, vs[j]? = some u → p.cell? ⟨g, j, none⟩ = some u) := by
            intro p hp j u hu
            have e : (⟨g, 0, none⟩ : Addr).add j = ⟨g, j, none⟩ := by unfold Addr.add; split <;> simp_all
            have h0 := HO.out.cells (g := g) rfl j u hu
            have hg0 := (HO.out.lt g rfl).2
            rw [e] at h0
            exact (hp.cell (p := ⟨g, j, none⟩) (by have := HSZ.out; show g < W0.heap.size; omega)).trans ((HBL.out.cell (p := ⟨g, j, none⟩) hg0).trans h0)
          have HLN : Hid ((vs.take (i * 2)).length = i * 2) := by rw [Hid, List.length_take, HVL.out]; omega
          have HNW : Hid (∀ j u, (vs.take (i * 2))[j]? = some u → (W1.alloc (.cells #[] 35)).cell? ((⟨g, 0, none⟩ : Addr).add j) = some u) := by
            intro j u hu
            have e : (⟨g, 0, none⟩ : Addr).add j = ⟨g, j, none⟩ := by unfold Addr.add; split <;> simp_all
            rw [e]
            rw [List.getElem?_take] at hu
            split at hu
            · exact HCS.out _ HBA.out j u hu
            · cases hu
          have HLD : Hid ((vs.drop (i * 2)).length = (k - i) * 2) := by rw [Hid, List.length_drop, HVL.out]; omega
          have HDR : Hid (∀ p, Below W0.heap.size W0 p → ∀ ad : Addr, (ad = ⟨g, i * 2, none⟩ ∨ i = k) → ∀ j u, (vs.drop (i * 2))[j]? = some u → p.cell? (ad.add j) = some u) := by
            intro p hp ad had j u hu
            rcases had with rfl | had
            rotate_left
            · have := (List.getElem?_eq_some_iff.1 hu).1
              rw [List.length_drop, HVL.out] at this
              omega
            have e : (⟨g, i * 2, none⟩ : Addr).add j = ⟨g, i * 2 + j, none⟩ := by unfold Addr.add; split <;> simp_all
            rw [e]
            rw [List.getElem?_drop] at hu
            exact HCS.out _ hp _ u hu
          have HU1 : Hid (∀ u ∈ vs, u.oneCell' = true) := HM.out.oneCell
          go_wp2_with (first
            | (at_builtin; refine wpList_append_own _ rfl (.tmp 36) (.tmp 39) 24 rfl W0.heap.size 35 i0 (.agg #[.slice none 0 0, .slice none 0 0]) 2 48 Try.underlying24 hinf hz0 hz1 hz2 rfl (by decide) _ 0 [] rfl HE.out ⟨g, 0, none⟩ i _ (vs.take (i * 2)) rfl HLN.out HNW.out (fun u hu => HU1.out u (List.mem_of_mem_take hu)) (by unfold maxLen; omega) (by omega) (by simp; omega) ?_; intro v1 w1 hown1 hgrow1 _; have HO1 := Lib.hid hown1; have HB1 : Hid (Below W0.heap.size W0 w1) := HBA.out.grown hgrow1 (by simp; omega) (fun q hq => (HE.out.lt q hq).1); clear hown1 hgrow1; have x0 := (HB0.out.below HB1.out).cell0; have x1 := (HB0.out.below HB1.out).cell1; have hs1 := HB1.out.size)
            | (at_builtin; refine wpList_append_own _ rfl (.tmp 41) (.tmp 43) 24 rfl W0.heap.size 35 i0 (.agg #[.slice none 0 0, .slice none 0 0]) 2 48 Try.underlying24 hinf hz0 hz1 hz2 rfl (by decide) _ _ _ rfl (HO1.out.alloc _) ⟨w1.heap.size, 0, none⟩ 1 1 [.slice B n d, .slice B' n d'] rfl rfl (cells_two _ _ _ _) (by intro u hu; simp at hu; rcases hu with rfl | rfl <;> rfl) (by unfold maxLen; omega) (by omega) (by simp; omega) ?_; intro v2 w2 hown2 hgrow2 _; have HO2 := Lib.hid hown2; have HB2 : Hid (Below W0.heap.size W0 w2) := (HB1.out.alloc hs1 _).grown hgrow2 (by simp; omega) (fun q hq => (HO1.out.lt q hq).1); clear hown2 hgrow2; have hs2 := HB2.out.size)
            | (at_builtin; refine wpList_append_own _ rfl (.tmp 45) (.tmp 48) 24 rfl W0.heap.size 35 i0 (.agg #[.slice none 0 0, .slice none 0 0]) 2 48 Try.underlying24 hinf hz0 hz1 hz2 rfl (by decide) _ _ _ rfl HO2.out _ (k - i) _ (vs.drop (i * 2)) rfl HLD.out (HDR.out _ HB2.out _ (by first | exact .inl rfl | exact .inr HEK.out)) (fun u hu => HU1.out u (List.mem_of_mem_drop hu)) (by unfold maxLen; omega) (by omega) (by omega) ?_; intro v3 w3 hown3 hgrow3 _; have HO3 := Lib.hid hown3; have HB3 : Hid (Below W0.heap.size W0 w3) := HB2.out.grown hgrow3 (by omega) (fun q hq => (HO2.out.lt q hq).1); clear hown3 hgrow3)
            | fail)
          go_ret
          obtain ⟨g', c', e, hr3⟩ := put_row HM.out HOX.out (HBL.out.trans (HB3.out.mono HBL.out.size)) (show lo ≤ W0.heap.size by have := HSZ.out; omega) HO3.out (by rw [HK.out]; omega) (by simp) (by rw [HK.out]; omega) HPUT.out
          subst e
          exact ⟨g', c', rfl, hr3, HBL.out.trans (HB3.out.mono HBL.out.size)⟩

end Go.Proofs.Ytakckkmhhedfpaa
