/-
  Blocks that stay as they were; an append of a row that a call owns to another one.
  An argument of slices of slices: its size, a copy that the call owns row by row, its marks.
-/
import Derived.Test.YtcenffndclpjoaaKit
import Derived.Test.YtcenffndclpjoaaSeen
import Derived.Laws.AppendOwnNone
import Derived.Maps.AppendAt
import Derived.Test.YtcenffndclpjoaaMarkSS
import Derived.Test.YtcenffndclpjoaaKitM
namespace Go.Proofs.Ytcenffndclpjoaa
open Go.RowKit
set_option linter.unusedVariables false

/-- The blocks from lo to hi are as they were. -/
def Fix (lo hi : Nat) (w w' : World) : Prop := ∀ i, lo ≤ i → i < hi → w'.heap[i]? = w.heap[i]?
theorem Fix.refl (lo hi : Nat) (w : World) : Fix lo hi w w := fun _ _ _ => rfl
theorem Fix.trans {lo hi : Nat} {a b c : World} (h : Fix lo hi a b) (k : Fix lo hi b c) : Fix lo hi a c := fun i h1 h2 => (k i h1 h2).trans (h i h1 h2)
theorem Fix.grown {lo hi : Nat} {w w' : World} {row : Option Nat} (hg : w.grownBy w' row) (hh : hi ≤ w.heap.size) (hr : ∀ k, row = some k → k < lo ∨ hi ≤ k) : Fix lo hi w w' := fun i h1 h2 => hg.block i (by omega) (fun e => by have := hr i e.symm; omega)
theorem Fix.below {lo hi : Nat} {w w' : World} {B : Nat} (hb : Below B w w') (hh : hi ≤ B) : Fix lo hi w w' := fun i _ h2 => hb.block i (by omega)
theorem ownsRow_fix {w w' : World} {lo hi : Nat} {e : TypeId} {size n : Nat} {v : Value} {xs : List Value} (h : w.ownsRow lo e size v n xs) (hv : ∀ k, v.ownBlock = some k → k < hi) (hf : Fix lo hi w w') : w'.ownsRow lo e size v n xs := by
  obtain ⟨h1, h2⟩ := h
  refine ⟨h1, ?_⟩
  rcases h2 with h2 | ⟨g, cap, cur, rfl, hg, hh, r⟩
  · exact .inl h2
  · exact .inr ⟨g, cap, cur, rfl, hg, (hf g hg (hv g rfl)).trans hh, r⟩
theorem OwnSS.fix {w w' : World} {lo hi : Nat} {v : Value} {xss : List (List Int)} (h : OwnSS w lo hi v xss) (hv : ∀ k, v.ownBlock = some k → k < hi) (hf : Fix lo hi w w') : OwnSS w' lo hi v xss := by
  obtain ⟨vs, hl, ho, hr, hd⟩ := h
  exact ⟨vs, hl, ownsRow_fix ho hv hf, fun j hj => ⟨ownsRow_fix (hr j hj).1 (hr j hj).2 hf, (hr j hj).2⟩, hd⟩
theorem OwnSS.at_ {w : World} {lo hi n c g : Nat} {xss : List (List Int)} (h : OwnSS w lo hi (.slice (some ⟨g, 0, none⟩) n c) xss) (hn : xss.length = n) {k : Nat} (hk : k < n) :
    ∃ (Ak : Option Addr) (nk ck : Nat), w.cell? ⟨g, k, none⟩ = some (.slice Ak nk ck) ∧ (xss.getD k []).length = nk ∧ Own w lo (.slice Ak nk ck) (xss.getD k []) ∧ nk ≤ maxLen := by
  obtain ⟨vs, hl, ho, hr, hd⟩ := h
  subst hn
  obtain ⟨h1, h2⟩ := hr k hk
  obtain ⟨A, c', e, -, hm⟩ := h1.form
  have hc := World.ownsRow.cells ho rfl k (vs.getD k undef) (by simp [List.getD, hl, hk])
  rw [e] at hc h1
  refine ⟨A, _, c', ?_, rfl, h1, hm⟩
  rwa [show (⟨g, 0, none⟩ : Addr).add k = ⟨g, k, none⟩ from by unfold Addr.add; split <;> simp_all] at hc

/-- An append of a row that a call owns to another one. -/
theorem wpList_append_row {w : World} {ops : Array Oper} {rest : List Oper} {o : Oper} {a : Act} {Q : Exit → Act → World → Prop} (hgd : o.guard = none) (s x : Operand) (t : TypeId)
    (ho : o.op = .call { callee := .builtin .append, args := #[s, x], argTypes := #[t, t] }) (ht : Try.prog.underlying t = some (.slice 3)) (base : Nat) (v : Value) (xs : List Int) (hs : a.eval s = v) (hown : Own w base v xs)
    (u : Value) (lo : Nat) (row : List Int) (hx : a.eval x = u) (hu : Own w lo u row) (h63 : xs.length + row.length ≤ 1048576) (hbase : base ≤ w.heap.size)
    (h : ∀ v' w', Own w' base v' (xs ++ row) → w.grownBy w' v.ownBlock → wpList Try.prog ops Q rest (a.put o.dst v') w') : wpList Try.prog ops Q (o :: rest) a w := by
  obtain ⟨i0, hinf, hz0, hz1, hz2⟩ := info_parts info_int
  have key : ∀ (v' : Value) (w' : World) (news : List Value), news = ints row → w'.ownsRow base 3 1 v' (xs.length + row.length) (ints xs ++ news) → Own w' base v' (xs ++ row) := by
    intro v' w' news e h1
    unfold Own
    rw [List.length_append, ints, List.map_append]
    rw [e] at h1
    exact h1
  rcases hu.2 with ⟨rfl, hl⟩ | ⟨g, cap, cur, rfl, hg, hh, hn, hm, hr⟩
  · have e : row = [] := List.length_eq_zero_iff.1 hl
    refine wpList_append_own_none hgd s x t ho base 3 i0 1 ht hinf v xs.length (ints xs) hs hown hx (h v w ?_ (World.grownBy.refl _ _))
    rw [e, List.append_nil]; exact hown
  · have hrd := hu.rd (n := row.length) rfl
    refine wpList_append_own _ hgd s x t ho base 3 i0 (.int .i64 0) 1 8 ht hinf hz0 hz1 hz2 rfl (by decide) v xs.length (ints xs) hs hown ⟨g, 0, none⟩ row.length cap (ints row) hx (by rw [ints_len]; omega) (Rd.news hrd) ints_one (by unfold maxLen; omega) (by omega) hbase (fun v' w' h1 h2 _ => h v' w' (key v' w' _ rfl h1) h2)

theorem lit_over {w w2 : World} {o : Obj} {n c : Nat} (hg : (w.alloc o).grownBy w2 (Value.ownBlock (.slice (some ⟨w.heap.size, 0, none⟩) n c))) : Below w.heap.size w w2 := by
  have b1 : Below w.heap.size w (w.alloc o) := (Below.refl _ _).alloc (Nat.le_refl _) _
  exact b1.grown hg b1.size (fun k hk => by cases hk; exact Nat.le_refl _)
theorem over_fix {w w2 : World} {lo n c g m : Nat} {vs : List Value} (h : w.ownsRow lo 23 1 (.slice (some ⟨g, 0, none⟩) n c) m vs) (hb : Below w.heap.size w w2) : w2.ownsRow lo 23 1 (.slice (some ⟨g, 0, none⟩) n c) m vs :=
  ownsRow_fix h (fun k hk => (h.lt k hk).2) (Fix.below hb (Nat.le_refl _))
theorem one_rowP {w : World} {lo : Nat} {v : Value} {xs : List Int} (h : Own w lo v xs) (hlo : lo ≤ w.heap.size) :
    OwnSS (w.alloc (.cells #[v] 23)) lo (w.alloc (.cells #[v] 23)).heap.size (.slice (some ⟨w.heap.size, 0, none⟩) 1 1) [xs] := by
  have hb : Below w.heap.size w (w.alloc (.cells #[v] 23)) := (Below.refl _ _).alloc (Nat.le_refl _) _
  refine ⟨[v], rfl, World.ownsRow_lit w #[v] 1 hlo (by unfold maxLen; omega) rfl, fun j hj => ?_, fun j hj i hij => ?_⟩
  · obtain rfl : j = 0 := by simpa using hj
    exact ⟨h.below hb, fun k hk => by have := (h.lt k hk).2; simp; omega⟩
  · simp at hj; omega

theorem own_someP {w : World} {lo n size : Nat} {t : TypeId} {v : Value} {xs : List Value} (h : w.ownsRow lo t size v n xs) (hv : v ≠ .slice none 0 0) : ∃ g c, v = .slice (some ⟨g, 0, none⟩) n c := by
  rcases h.2 with ⟨e, _⟩ | ⟨g, cap, cur, rfl, _⟩
  · exact absurd e hv
  · exact ⟨g, cap, rfl⟩


end Go.Proofs.Ytcenffndclpjoaa

namespace Go.Proofs.Ytcenffndclpjoaa
open Go.RowKit

/-- A row put into a slice of slices that a call owns. -/
theorem OwnRows.put {w : World} {lo hi hi' n c g k : Nat} {f : Nat → List Int} {u : Value} {xs : List Int} (h : OwnRows w lo hi (.slice (some ⟨g, 0, none⟩) n c) n f) (hk : k < n) (hu : Own w lo u xs) (hh : hi ≤ hi') (hu' : ∀ q, u.ownBlock = some q → hi ≤ q ∧ q < hi') :
    OwnRows (w.setCell ⟨g, k, none⟩ u) lo hi' (.slice (some ⟨g, 0, none⟩) n c) n (fun j => if j = k then xs else f j) ∧ w.grownBy (w.setCell ⟨g, k, none⟩ u) (some g) := by
  obtain ⟨vs, hl, ho, hr, hd⟩ := h
  have hs := World.ownsRow.stored ho k u
  have key : ∀ {x : Value} {ys : List Int}, Own w lo x ys → Own (w.setCell ⟨g, k, none⟩ u) lo x ys := fun {x ys} hx => by
    refine hx.grown hs.2 ?_
    cases hb : x.ownBlock with
    | none => exact .inl rfl
    | some b =>
      refine .inr fun e => ?_
      injection e with e
      subst e
      obtain ⟨_, cs, h1⟩ := row_kind ho b rfl
      obtain ⟨_, cs', h2⟩ := row_kind hx b hb
      rw [h1] at h2
      injection h2 with h2
      injection h2 with _ h2
      exact absurd h2 (by decide)
  have hget : ∀ j, (vs.set k u).getD j undef = if j = k then u else vs.getD j undef := fun j => by
    by_cases e : j = k
    · subst e; rw [if_pos rfl]; simp [List.getD, hl, hk]
    · rw [if_neg e]; simp [List.getD, Ne.symm e]
  refine ⟨⟨vs.set k u, by simp [hl], hs.1, fun j hj => ?_, fun j hj i hij => ?_⟩, hs.2⟩
  · rw [hget]
    by_cases e : j = k
    · simp only [if_pos e]; exact ⟨key hu, fun q hq => (hu' q hq).2⟩
    · simp only [if_neg e]; exact ⟨key (hr j hj).1, fun q hq => Nat.lt_of_lt_of_le ((hr j hj).2 q hq) hh⟩
  · rw [hget, hget]
    by_cases e : j = k
    · have e2 : i ≠ k := by omega
      rw [if_pos e, if_neg e2]
      exact ne_of (fun q hq => (hr i (by omega)).2 q hq) (fun q hq => (hu' q hq).1)
    · rw [if_neg e]
      by_cases e2 : i = k
      · rw [if_pos e2]
        exact ne_of' (fun q hq => (hu' q hq).1) (fun q hq => (hr j hj).2 q hq)
      · rw [if_neg e2]; exact hd j hj i hij
theorem OwnRows.below {w w' : World} {lo hi n : Nat} {v : Value} {f : Nat → List Int} (h : OwnRows w lo hi v n f) (hb : Below w.heap.size w w') : OwnRows w' lo hi v n f := by
  obtain ⟨vs, hl, ho, hr, hd⟩ := h
  exact ⟨vs, hl, World.ownsRow.kept ho (row := none) ⟨hb.os, hb.tape, hb.output, hb.size, fun k hk _ => hb.block k hk⟩ (by cases v.ownBlock <;> simp), fun j hj => ⟨(hr j hj).1.below hb, (hr j hj).2⟩, hd⟩
theorem OwnRows.cell {w : World} {lo hi n c g k : Nat} {f : Nat → List Int} (h : OwnRows w lo hi (.slice (some ⟨g, 0, none⟩) n c) n f) (hk : k < n) : ∃ v, w.cell? ⟨g, k, none⟩ = some v ∧ w.frozen? ⟨g, k, none⟩ = false := by
  obtain ⟨vs, hl, ho, hr, hd⟩ := h
  refine ⟨vs.getD k undef, ?_, World.ownsRow.frozenAt ho k⟩
  rw [World.ownsRow.cellAt ho k (by omega)]
  simp [List.getD, List.getElem?_eq_getElem (show k < vs.length by omega)]
theorem OwnRows.made {w : World} {lo hi g n : Nat} (h : w.ownsRow lo 23 1 (.slice (some ⟨g, 0, none⟩) n n) n (madeCells (Value.slice none 0 0).cells (n * 1)).toList) : OwnRows w lo hi (.slice (some ⟨g, 0, none⟩) n n) n (fun _ => []) := by
  have e : (Value.slice none 0 0).cells = #[Value.slice none 0 0] := rfl
  rw [e, Nat.mul_one, toList_madeCells_one] at h
  have hget : ∀ j, j < n → (List.replicate n (Value.slice none 0 0)).getD j undef = Value.slice none 0 0 := fun j hj => by simp [List.getD, hj]
  exact ⟨_, by simp, h, fun j hj => by rw [hget j hj]; exact ⟨Own.nil_ _ _, fun k hk => by cases hk⟩, fun j hj i hij => by rw [hget i (by omega)]; exact .inl rfl⟩

theorem OwnSS.chg {w w' : World} {lo hi a b : Nat} {v : Value} {xss : List (List Int)} (h : OwnSS w lo hi v xss) (hv : ∀ k, v.ownBlock = some k → k < hi) (hw : hi ≤ w.heap.size) (hc : Chg a b w w') (ho : hi ≤ a ∨ b ≤ lo) : OwnSS w' lo hi v xss :=
  h.fix hv fun i h1 h2 => hc.block i (by omega) (by omega)

end Go.Proofs.Ytcenffndclpjoaa
