/-
  Words on memory, more: a row of marks (bools), a slice of slices of ints, and how long a loop that marks points can go on.
-/
import Derived.Test.YtcenffndclpjoaaBack
import Derived.Test.YtcenffndclpjoaaPlain
import Derived.Deep.LoopGhost
namespace Go.Proofs.Ytcenffndclpjoaa
open Go.RowKit

/-- Block b holds N bools of (row or array) type t: those of vis are true. -/
def SeenT (w : World) (b : Nat) (t : TypeId) (N : Nat) (vis : List Nat) : Prop :=
  ∃ cs : Array Value, w.heap[b]? = some (.cells cs t (0, 0)) ∧ cs.size = N ∧ ∀ j : Nat, j < N → cs[j]? = some (.bool (decide (j ∈ vis)))

section
variable {w w' : World} {b N : Nat} {t : TypeId} {vis vis' : List Nat}
theorem SeenT.frozen (h : SeenT w b t N vis) (j : Nat) : w.frozen? ⟨b, j, none⟩ = false := by
  obtain ⟨cs, h, _⟩ := h
  exact frozen_of_row w b j cs _ h
theorem SeenT.cell (h : SeenT w b t N vis) {j : Nat} (hj : j < N) : w.cell? ⟨b, j, none⟩ = some (.bool (decide (j ∈ vis))) := by
  obtain ⟨cs, h, _, hc⟩ := h
  rw [cell_of_row w b j cs _ (0, 0) h]; exact hc j hj
theorem SeenT.lt (h : SeenT w b t N vis) : b < w.heap.size := by
  obtain ⟨cs, h, _⟩ := h
  exact (Array.getElem?_eq_some_iff.1 h).1
theorem SeenT.same (h : SeenT w b t N vis) (he : w'.heap[b]? = w.heap[b]?) : SeenT w' b t N vis := by
  obtain ⟨cs, h, r⟩ := h
  exact ⟨cs, he.trans h, r⟩
theorem SeenT.set (h : SeenT w b t N vis) (k : Nat) : SeenT (w.setCell ⟨b, k, none⟩ (.bool true)) b t N (k :: vis) := by
  obtain ⟨cs, h, hs, hc⟩ := h
  refine ⟨cs.setIfInBounds k (.bool true), ?_, by simpa using hs, fun j hj => ?_⟩
  · simp [World.setCell, Array.getElem?_modify, h]
  · rw [Array.getElem?_setIfInBounds]
    by_cases e : k = j
    · subst e
      rw [if_pos rfl, if_pos (by rw [hs]; exact hj)]
      simp
    · rw [if_neg e, hc j hj]
      have : decide (j ∈ k :: vis) = decide (j ∈ vis) := by
        rw [decide_eq_decide, List.mem_cons]
        constructor
        · rintro (h | h)
          · exact absurd h.symm e
          · exact h
        · exact .inr
      rw [this]
theorem SeenT.iff (h : SeenT w b t N vis) (h' : SeenT w b t N vis') {j : Nat} (hj : j < N) : j ∈ vis ↔ j ∈ vis' := by
  have a := h.cell hj
  rw [h'.cell hj] at a
  simp only [Option.some.injEq, Value.bool.injEq, decide_eq_decide] at a
  exact a.symm
theorem SeenT.made {lo c : Nat} (h : w.ownsRow lo t 1 (.slice (some ⟨b, 0, none⟩) N c) N (madeCells (Value.bool false).cells (N * 1)).toList) (hc : c = N) : SeenT w b t N [] := by
  subst hc
  rcases h.2 with ⟨hv, _⟩ | ⟨g, cap, cur, hv, _, hh, hn, _, hs, ht⟩
  · simp at hv
  · simp only [Value.slice.injEq, Option.some.injEq, Addr.mk.injEq, and_true, true_and] at hv
    obtain ⟨rfl, rfl⟩ := hv
    refine ⟨cur, hh, by rw [hs]; omega, fun j hj => ?_⟩
    have e : (Value.bool false).cells = #[Value.bool false] := rfl
    rw [e, Nat.mul_one, toList_madeCells_one] at ht
    have h2 : (cur.toList.take c)[j]? = some (.bool false) := by rw [ht]; simp [hj]
    rw [List.getElem?_take, if_pos hj] at h2
    simpa using h2
theorem SeenT.grown {row : Option Nat} (h : SeenT w b t N vis) (hg : w.grownBy w' row) (hne : row ≠ some b) : SeenT w' b t N vis := h.same (hg.block b h.lt (fun e => hne e.symm))
theorem SeenT.alloc (h : SeenT w b t N vis) (o : Obj) : SeenT (w.alloc o) b t N vis := h.same (Below.heap_alloc w o b h.lt)
theorem own_ne_seen {base : Nat} {e : TypeId} {size n : Nat} {v : Value} {xs : List Value} (h : w.ownsRow base e size v n xs) (hs : SeenT w b t N vis) (hne : e ≠ t) : v.ownBlock ≠ some b := by
  obtain ⟨cs, hb, _⟩ := hs
  rcases h.2 with ⟨rfl, _⟩ | ⟨g', cap, cur, rfl, _, hh, _⟩
  · simp [Value.ownBlock]
  · intro he
    have : g' = b := by simpa [Value.ownBlock] using he
    subst this
    rw [hh] at hb
    injection hb with hb
    injection hb with _ ht
    exact hne ht
end

/-- How many marks are still to be set, at least. -/
noncomputable def todo (w : World) (b : Nat) (t : TypeId) (N : Nat) : Nat := leastOf fun f => ∃ vis : List Nat, SeenT w b t N vis ∧ vis.Nodup ∧ (∀ j, j ∈ vis → j < N) ∧ f + vis.length = N
theorem todo_step {w w' : World} {b N k : Nat} {t : TypeId} {vis : List Nat} (h : SeenT w b t N vis) (hn : vis.Nodup) (hl : ∀ j, j ∈ vis → j < N) (hk : k < N) (hv : k ∉ vis)
    (he : w'.heap[b]? = (w.setCell ⟨b, k, none⟩ (.bool true)).heap[b]?) : todo w' b t N < todo w b t N := by
  have h0 := nodup_len N vis hn hl
  have sp := leastOf_spec (p := fun f => ∃ vis : List Nat, SeenT w b t N vis ∧ vis.Nodup ∧ (∀ j, j ∈ vis → j < N) ∧ f + vis.length = N) ⟨N - vis.length, vis, h, hn, hl, by omega⟩
  obtain ⟨⟨vis2, h2, hn2, hl2, e2⟩, _⟩ := sp
  have hk2 : k ∉ vis2 := fun hm => hv ((h.iff h2 hk).2 hm)
  have hn3 : (k :: vis2).Nodup := List.nodup_cons.2 ⟨hk2, hn2⟩
  have hl3 : ∀ j, j ∈ k :: vis2 → j < N := fun j hj => by
    rcases List.mem_cons.1 hj with rfl | hj
    · exact hk
    · exact hl2 j hj
  have h3 := nodup_len N _ hn3 hl3
  simp only [List.length_cons] at h3
  have P : ∃ vis : List Nat, SeenT w' b t N vis ∧ vis.Nodup ∧ (∀ j, j ∈ vis → j < N) ∧ (todo w b t N - 1) + vis.length = N :=
    ⟨k :: vis2, (h2.set k).same he, hn3, hl3, by simp only [List.length_cons]; unfold todo; omega⟩
  have := (leastOf_spec (p := fun f => ∃ vis : List Nat, SeenT w' b t N vis ∧ vis.Nodup ∧ (∀ j, j ∈ vis → j < N) ∧ f + vis.length = N) ⟨_, P⟩).2 _ P
  have h4 : 1 ≤ todo w b t N := by unfold todo; omega
  unfold todo at this h4 ⊢
  omega

/-- A slice of slices of ints that a call owns: its rows lie between block lo and block hi. -/
def OwnSS (w : World) (lo hi : Nat) (v : Value) (xss : List (List Int)) : Prop :=
  ∃ vs : List Value, vs.length = xss.length ∧ w.ownsRow lo 23 1 v xss.length vs ∧ (∀ j, j < xss.length → Own w lo (vs.getD j undef) (xss.getD j []) ∧ ∀ k, (vs.getD j undef).ownBlock = some k → k < hi) ∧
    ∀ j, j < xss.length → ∀ i, i < j → (vs.getD i undef).ownBlock = none ∨ (vs.getD i undef).ownBlock ≠ (vs.getD j undef).ownBlock

section
variable {w w' : World} {lo hi : Nat} {v : Value} {xss : List (List Int)}
theorem OwnSS.empty (h : lo ≤ w.heap.size) : OwnSS (w.alloc (.cells #[] 23)) lo hi (.slice (some ⟨w.heap.size, 0, none⟩) 0 0) [] :=
  ⟨[], rfl, World.ownsRow_lit w #[] 0 h (Nat.zero_le _) rfl, fun j hj => absurd hj (by simp), fun j hj => absurd hj (by simp)⟩
theorem OwnSS.nil_ : OwnSS w lo hi (.slice none 0 0) [] := ⟨[], rfl, World.ownsRow_nil w lo _ _, fun j hj => absurd hj (by simp), fun j hj => absurd hj (by simp)⟩
theorem OwnSS.below (h : OwnSS w lo hi v xss) (hb : Below w.heap.size w w') : OwnSS w' lo hi v xss := by
  obtain ⟨vs, hl, ho, hr, hd⟩ := h
  exact ⟨vs, hl, World.ownsRow.kept ho (row := none) ⟨hb.os, hb.tape, hb.output, hb.size, fun k hk _ => hb.block k hk⟩ (by cases v.ownBlock <;> simp), fun j hj => ⟨(hr j hj).1.below hb, (hr j hj).2⟩, hd⟩
theorem OwnSS.more {hi' : Nat} (h : OwnSS w lo hi v xss) (hh : hi ≤ hi') : OwnSS w lo hi' v xss := by
  obtain ⟨vs, hl, ho, hr, hd⟩ := h
  exact ⟨vs, hl, ho, fun j hj => ⟨(hr j hj).1, fun k hk => Nat.lt_of_lt_of_le ((hr j hj).2 k hk) hh⟩, hd⟩
theorem OwnSS.mono {lo' : Nat} (h : OwnSS w lo hi v xss) (hh : lo' ≤ lo) : OwnSS w lo' hi v xss := by
  obtain ⟨vs, hl, ho, hr, hd⟩ := h
  refine ⟨vs, hl, ?_, fun j hj => ⟨(hr j hj).1.mono hh, (hr j hj).2⟩, hd⟩
  obtain ⟨h1, h2⟩ := ho
  refine ⟨h1, ?_⟩
  rcases h2 with h2 | ⟨g, cap, cur, hv, hg, r⟩
  · exact .inl h2
  · exact .inr ⟨g, cap, cur, hv, by omega, r⟩
/-- Over marks that are set. -/
theorem OwnSS.marked {b N : Nat} {t : TypeId} {vis : List Nat} (h : OwnSS w lo hi v xss) (hs : SeenT w b t N vis) (h1 : 23 ≠ t) (h2 : 3 ≠ t) (hg : w.grownBy w' (some b)) : OwnSS w' lo hi v xss := by
  obtain ⟨vs, hl, ho, hr, hd⟩ := h
  refine ⟨vs, hl, ho.kept hg (.inr (own_ne_seen ho hs h1)), fun j hj => ⟨(hr j hj).1.grown hg (.inr (own_ne_seen (hr j hj).1 hs h2)), (hr j hj).2⟩, hd⟩
theorem getD_append_left (vs us : List Value) (d : Value) {j : Nat} (h : j < vs.length) : (vs ++ us).getD j d = vs.getD j d := by simp [List.getD, List.getElem?_append_left h]
theorem getD_append_left' (vs us : List (List Int)) (d : List Int) {j : Nat} (h : j < vs.length) : (vs ++ us).getD j d = vs.getD j d := by simp [List.getD, List.getElem?_append_left h]
/-- One row more. -/
theorem OwnSS.snoc {u v1 : Value} {xs : List Int} {vs : List Value} {w1 : World} (hl : vs.length = xss.length) (hr : ∀ j, j < xss.length → Own w lo (vs.getD j undef) (xss.getD j []) ∧ ∀ k, (vs.getD j undef).ownBlock = some k → k < hi)
    (hd : ∀ j, j < xss.length → ∀ i, i < j → (vs.getD i undef).ownBlock = none ∨ (vs.getD i undef).ownBlock ≠ (vs.getD j undef).ownBlock)
    (hv : w.ownsRow lo 23 1 v xss.length vs) (hu : Own w lo u xs) (hu0 : ∀ k, u.ownBlock = some k → hi ≤ k) {hi' : Nat} (hh : hi ≤ hi') (hu' : ∀ k, u.ownBlock = some k → k < hi')
    (ho : w1.ownsRow lo 23 1 v1 (xss.length + 1) (vs ++ [u])) (hg : w.grownBy w1 v.ownBlock) : OwnSS w1 lo hi' v1 (xss ++ [xs]) := by
  have key : ∀ {x : Value} {ys : List Int}, Own w lo x ys → Own w1 lo x ys := fun {x ys} hx => by
    refine hx.grown hg ?_
    rcases hv.2 with ⟨rfl, _⟩ | ⟨g, cap, cur, rfl, _, hh, _⟩
    · cases hb : x.ownBlock with
      | none => exact .inl rfl
      | some k => exact .inr (by simp [Value.ownBlock])
    · rcases hx.2 with ⟨rfl, _⟩ | ⟨g', cap', cur', rfl, _, hh', _⟩
      · exact .inl rfl
      · refine .inr fun e => ?_
        have : g' = g := by simpa [Value.ownBlock] using e
        subst this
        rw [hh] at hh'
        injection hh' with hh'
        injection hh' with _ ht
        exact absurd ht (by decide)
  refine ⟨vs ++ [u], by simp [hl], by simpa using ho, fun j hj => ?_, fun j hj i hij => ?_⟩
  rotate_left
  · simp only [List.length_append, List.length_cons, List.length_nil] at hj
    by_cases e : j < xss.length
    · rw [getD_append_left vs _ _ (j := j) (by rw [hl]; exact e), getD_append_left vs _ _ (j := i) (by rw [hl]; omega)]
      exact hd j e i hij
    · have : j = xss.length := by omega
      subst this
      have e1 : (vs ++ [u]).getD xss.length undef = u := by simp [List.getD, ← hl]
      rw [e1, getD_append_left _ _ _ (by rw [hl]; exact hij)]
      exact ne_of (fun k hk => (hr i hij).2 k hk) hu0
  simp only [List.length_append, List.length_cons, List.length_nil] at hj
  by_cases e : j < xss.length
  · rw [getD_append_left _ _ _ (by rw [hl]; exact e), getD_append_left' _ _ _ e]
    exact ⟨key (hr j e).1, fun k hk => Nat.lt_of_lt_of_le ((hr j e).2 k hk) hh⟩
  · have : j = xss.length := by omega
    subst this
    have e1 : (vs ++ [u]).getD xss.length undef = u := by simp [List.getD, ← hl]
    have e2 : (xss ++ [xs]).getD xss.length [] = xs := by simp [List.getD]
    rw [e1, e2]
    exact ⟨key hu, hu'⟩
theorem OwnSS.form (h : OwnSS w lo hi v xss) {n : Nat} (hn : xss.length = n) : ∃ A c, v = .slice A n c ∧ n ≤ maxLen := by
  obtain ⟨vs, _, ho, _⟩ := h
  subst hn
  rcases ho.2 with ⟨rfl, hn⟩ | ⟨g, cap, cur, rfl, _, _, hn, hm, _⟩
  · exact ⟨none, 0, by rw [hn], by rw [hn]; exact Nat.zero_le _⟩
  · exact ⟨_, cap, rfl, Nat.le_trans hn hm⟩
theorem OwnSS.lt (h : OwnSS w lo hi v xss) : ∀ k, v.ownBlock = some k → lo ≤ k ∧ k < w.heap.size := by
  obtain ⟨vs, _, ho, _⟩ := h
  exact ho.lt
end

theorem cell_one_set (w : World) (p : Addr) (u x : Value) (t : TypeId) : ∀ j u', [x][j]? = some u' → ((w.setCell p u).alloc (.cells #[x] t)).cell? ((⟨w.heap.size, 0, none⟩ : Addr).add j) = some u' := by
  have h := cell_one_new (w.setCell p u) x t
  rwa [show (w.setCell p u).heap.size = w.heap.size from by simp [World.setCell]] at h
theorem grown_later {a b c : World} {row row' : Option Nat} (h : a.grownBy b row) (k : b.grownBy c row') (hr : ∀ i, row' = some i → a.heap.size ≤ i) : a.grownBy c row :=
  ⟨k.os.trans h.os, k.tape.trans h.tape, k.output.trans h.output, Nat.le_trans h.size k.size, fun i hi hne => (k.block i (Nat.lt_of_lt_of_le hi h.size) (fun e => by have := hr i e.symm; omega)).trans (h.block i hi hne)⟩
theorem grown_set (w : World) (b k : Nat) (u : Value) : w.grownBy (w.setCell ⟨b, k, none⟩ u) (some b) :=
  ⟨rfl, rfl, rfl, by simp [World.setCell], fun i _ hne => Below.heap_setCell w ⟨b, k, none⟩ u i (fun e => hne (by rw [e]))⟩
theorem info_slice : (Try.prog.info? 23).map (fun i => (i.zero, i.size, i.bytes)) = some (some (.slice none 0 0), 1, 24) := by kernel_rfl
theorem info_bool : (Try.prog.info? 4).map (fun i => (i.zero, i.size, i.bytes)) = some (some (.bool false), 1, 1) := by kernel_rfl

end Go.Proofs.Ytcenffndclpjoaa
