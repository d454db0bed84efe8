/-
  A row of maps that a call owns (two cells a map): its cells read as a list of maps. The maps' own rows lie in other blocks: of another type.
-/
import Derived.Test.YteajaikgeephmaaKitM
import Derived.Test.YteajaikgeephmaaEnum
namespace Go.Proofs.Yteajaikgeephmaa
open Go.RowKit

/-- Cells, two by two, read as maps. -/
def Maps (w : World) (lo : Nat) : List Value → List (List Int × List Int) → Prop
  | [], [] => True
  | u :: u' :: vs, m :: ms => OwnM w lo u u' m.1 m.2 ∧ Maps w lo vs ms
  | _, _ => False
section
variable {w w' : World} {lo lo' : Nat}
theorem Maps.nil_ (w : World) (lo : Nat) : Maps w lo [] [] := trivial
theorem Maps.all {p : World} (k : ∀ {u u' : Value} {t f : List Int}, OwnM w lo u u' t f → OwnM p lo' u u' t f) : ∀ {vs : List Value} {ms : List (List Int × List Int)}, Maps w lo vs ms → Maps p lo' vs ms
  | [], [], _ => trivial
  | _ :: _ :: _, _ :: _, h => ⟨k h.1, Maps.all k h.2⟩
  | [], _ :: _, h => h.elim
  | [_], [], h => h.elim
  | [_], _ :: _, h => h.elim
  | _ :: _ :: _, [], h => h.elim
theorem Maps.below {vs : List Value} {ms : List (List Int × List Int)} (h : Maps w lo vs ms) (hb : Below w.heap.size w w') : Maps w' lo vs ms := h.all fun o => o.below hb
theorem Maps.mono {vs : List Value} {ms : List (List Int × List Int)} (h : Maps w lo vs ms) (hl : lo' ≤ lo) : Maps w lo' vs ms := h.all fun o => o.mono hl
theorem Maps.len : ∀ {vs : List Value} {ms : List (List Int × List Int)}, Maps w lo vs ms → vs.length = ms.length * 2
  | [], [], _ => rfl
  | _ :: _ :: vs, _ :: ms, h => by
    have := Maps.len h.2
    simp only [List.length_cons]; omega
  | [], _ :: _, h => h.elim
  | [_], [], h => h.elim
  | [_], _ :: _, h => h.elim
  | _ :: _ :: _, [], h => h.elim
theorem Maps.app {us : List Value} {ns : List (List Int × List Int)} (k : Maps w lo us ns) : ∀ {vs : List Value} {ms : List (List Int × List Int)}, Maps w lo vs ms → Maps w lo (vs ++ us) (ms ++ ns)
  | [], [], _ => k
  | _ :: _ :: _, _ :: _, h => ⟨h.1, Maps.app k h.2⟩
  | [], _ :: _, h => h.elim
  | [_], [], h => h.elim
  | [_], _ :: _, h => h.elim
  | _ :: _ :: _, [], h => h.elim
theorem Maps.one {u u' : Value} {t f : List Int} (h : OwnM w lo u u' t f) : Maps w lo [u, u'] [(t, f)] := ⟨h, trivial⟩
theorem Maps.take : ∀ {vs : List Value} {ms : List (List Int × List Int)} (_ : Maps w lo vs ms) (k : Nat), Maps w lo (vs.take (k * 2)) (ms.take k)
  | _, _, _, 0 => by simp [Maps]
  | [], [], _, k + 1 => by simp [Maps]
  | u :: u' :: vs, m :: ms, h, k + 1 => by
    rw [show (k + 1) * 2 = k * 2 + 1 + 1 by omega, List.take_succ_cons, List.take_succ_cons, List.take_succ_cons]
    exact ⟨h.1, Maps.take h.2 k⟩
  | [], _ :: _, h, _ + 1 => h.elim
  | [_], [], h, _ + 1 => h.elim
  | [_], _ :: _, h, _ + 1 => h.elim
  | _ :: _ :: _, [], h, _ + 1 => h.elim
theorem Maps.drop : ∀ {vs : List Value} {ms : List (List Int × List Int)} (_ : Maps w lo vs ms) (k : Nat), Maps w lo (vs.drop (k * 2)) (ms.drop k)
  | _, _, h, 0 => by simpa using h
  | [], [], _, k + 1 => by simp [Maps]
  | u :: u' :: vs, m :: ms, h, k + 1 => by
    rw [show (k + 1) * 2 = k * 2 + 1 + 1 by omega, List.drop_succ_cons, List.drop_succ_cons, List.drop_succ_cons]
    exact Maps.drop h.2 k
  | [], _ :: _, h, _ + 1 => h.elim
  | [_], [], h, _ + 1 => h.elim
  | [_], _ :: _, h, _ + 1 => h.elim
  | _ :: _ :: _, [], h, _ + 1 => h.elim
theorem Maps.at_ : ∀ {vs : List Value} {ms : List (List Int × List Int)} (_ : Maps w lo vs ms) {j : Nat} (hj : j < ms.length), ∃ u u', vs[j * 2]? = some u ∧ vs[j * 2 + 1]? = some u' ∧ OwnM w lo u u' (ms[j]).1 (ms[j]).2
  | [], [], _, _, hj => by simp at hj
  | u :: u' :: vs, m :: ms, h, 0, _ => ⟨u, u', rfl, rfl, h.1⟩
  | u :: u' :: vs, m :: ms, h, j + 1, hj => by
    obtain ⟨x, x', h1, h2, h3⟩ := Maps.at_ h.2 (j := j) (by simpa using hj)
    refine ⟨x, x', ?_, ?_, by simpa using h3⟩
    · rw [show (j + 1) * 2 = j * 2 + 1 + 1 by omega, List.getElem?_cons_succ, List.getElem?_cons_succ]; exact h1
    · rw [show (j + 1) * 2 + 1 = j * 2 + 1 + 1 + 1 by omega, List.getElem?_cons_succ, List.getElem?_cons_succ]; exact h2
  | [], _ :: _, h, _, _ => h.elim
  | [_], [], h, _, _ => h.elim
  | [_], _ :: _, h, _, _ => h.elim
  | _ :: _ :: _, [], h, _, _ => h.elim
end

/-- A row of maps that a call owns. -/
def RowM (w : World) (lo : Nat) (v : Value) (ms : List (List Int × List Int)) : Prop :=
  ∃ vs, w.ownsRow lo 35 2 v ms.length vs ∧ Maps w lo vs ms
section
variable {w w' : World} {lo lo' : Nat} {v : Value} {ms : List (List Int × List Int)}
theorem own_kept {lo' : Nat} {x : Value} {ys : List Int} {n : Nat} {vs : List Value} (hx : Own w lo' x ys) (hv : w.ownsRow lo 35 2 v n vs) (hg : w.grownBy w' v.ownBlock) : Own w' lo' x ys := by
  refine hx.grown hg ?_
  rcases hv.2 with ⟨rfl, _⟩ | ⟨g, cap, cur, rfl, _, hh, _⟩
  · cases hb : x.ownBlock with
    | none => exact .inl rfl
    | some k => exact .inr (by simp [Value.ownBlock])
  · rcases hx.2 with ⟨rfl, _⟩ | ⟨g', cap', cur', rfl, _, hh', _⟩
    · exact .inl rfl
    · refine .inr fun e => ?_
      have : g' = g := by simpa [Value.ownBlock] using e
      subst this
      rw [hh] at hh'
      injection hh' with hh'
      injection hh' with _ ht
      exact absurd ht (by decide)
/-- Maps stay, whatever is written to a row of maps. -/
theorem ownM_kept {lo' : Nat} {u u' : Value} {t f : List Int} {n : Nat} {vs : List Value} (h : OwnM w lo' u u' t f) (hv : w.ownsRow lo 35 2 v n vs) (hg : w.grownBy w' v.ownBlock) : OwnM w' lo' u u' t f :=
  ⟨own_kept h.turn hv hg, own_kept h.flip hv hg, h.apart⟩
theorem Maps.kept {lo' : Nat} {us vs : List Value} {n : Nat} (h : Maps w lo' us ms) (hv : w.ownsRow lo 35 2 v n vs) (hg : w.grownBy w' v.ownBlock) : Maps w' lo' us ms :=
  h.all fun o => ownM_kept o hv hg
theorem RowM.nil_ (w : World) (lo : Nat) : RowM w lo (.slice none 0 0) [] := ⟨[], World.ownsRow_nil w lo _ _, trivial⟩
theorem RowM.new_ (h : lo ≤ w.heap.size) : RowM (w.alloc (.cells #[] 35)) lo (.slice (some ⟨w.heap.size, 0, none⟩) 0 0) [] :=
  ⟨[], World.ownsRow_lit w #[] 0 h (Nat.zero_le _) rfl, trivial⟩
theorem RowM.below (h : RowM w lo v ms) (hb : Below w.heap.size w w') : RowM w' lo v ms := by
  obtain ⟨vs, ho, hm⟩ := h
  exact ⟨vs, World.ownsRow.kept ho (row := none) ⟨hb.os, hb.tape, hb.output, hb.size, fun k hk _ => hb.block k hk⟩ (by cases v.ownBlock <;> simp), hm.below hb⟩
theorem RowM.mono (h : RowM w lo v ms) (hh : lo' ≤ lo) : RowM w lo' v ms := by
  obtain ⟨vs, ho, hm⟩ := h
  refine ⟨vs, ?_, hm.mono hh⟩
  obtain ⟨h1, h2⟩ := ho
  refine ⟨h1, ?_⟩
  rcases h2 with h2 | ⟨g, cap, cur, hv, hg, r⟩
  · exact .inl h2
  · exact .inr ⟨g, cap, cur, hv, by omega, r⟩
/-- What such a value looks like. -/
theorem RowM.form (h : RowM w lo v ms) {n : Nat} (hn : ms.length = n) : ∃ A c, v = .slice A n c ∧ n ≤ maxLen := by
  obtain ⟨vs, ho, _⟩ := h
  subst hn
  rcases ho.2 with ⟨rfl, hn⟩ | ⟨g, cap, cur, rfl, _, _, hn, hm, _⟩
  · exact ⟨none, 0, by rw [hn], by rw [hn]; exact Nat.zero_le _⟩
  · exact ⟨_, cap, rfl, Nat.le_trans hn hm⟩
/-- More maps at its end (behind wpList_append_own). -/
theorem RowM.more {vs us : List Value} {ns : List (List Int × List Int)} {v1 : Value} {w1 : World} (hv : w.ownsRow lo 35 2 v ms.length vs) (hm : Maps w lo vs ms) (hn : Maps w lo us ns)
    (ho : w1.ownsRow lo 35 2 v1 (ms.length + ns.length) (vs ++ us)) (hg : w.grownBy w1 v.ownBlock) : RowM w1 lo v1 (ms ++ ns) :=
  ⟨vs ++ us, by rw [List.length_append]; exact ho, (hn.kept hv hg).app (hm.kept hv hg)⟩
/-- A map of the row, in memory. -/
theorem RowM.cells (h : RowM w lo v ms) {g n cap : Nat} (he : v = .slice (some ⟨g, 0, none⟩) n cap) {j : Nat} (hj : j < ms.length) :
    ∃ u u', w.cell? ⟨g, j * 2, none⟩ = some u ∧ w.cell? ⟨g, j * 2 + 1, none⟩ = some u' ∧ OwnM w lo u u' (ms[j]).1 (ms[j]).2 := by
  obtain ⟨vs, ho, hm⟩ := h
  obtain ⟨u, u', h1, h2, h3⟩ := hm.at_ hj
  have hz : ∀ k, (⟨g, 0, none⟩ : Addr).add k = ⟨g, k, none⟩ := fun k => by unfold Addr.add; split <;> simp_all
  exact ⟨u, u', by rw [← hz]; exact ho.cells (g := g) (by rw [he]; rfl) _ _ h1, by rw [← hz]; exact ho.cells (g := g) (by rw [he]; rfl) _ _ h2, h3⟩
end

end Go.Proofs.Yteajaikgeephmaa
