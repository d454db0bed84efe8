/-
  Operation by operation, the act told by what stands in the region's own slots.
-/
import Derived.Test.YteajaikgeephmaaOpw
namespace Go.Proofs.Yteajaikgeephmaa
open Go.RowKit

/-- The slots ss of an act, filled by y. -/
def putAll (T : Array Value) (ss : List Nat) (y : Nat → Value) : Array Value := ss.foldl (fun t s => t.setIfInBounds s (y s)) T
def actY (a : Act) (ss : List Nat) (y : Nat → Value) : Act := { tmps := putAll a.tmps ss y, defers := a.defers }
def upd (y : Nat → Value) (s : Nat) (v : Value) : Nat → Value := fun t => if t = s then v else y t
theorem upd_same (y : Nat → Value) (s : Nat) (v : Value) : upd y s v s = v := if_pos rfl
theorem upd_ne (y : Nat → Value) {s t : Nat} (v : Value) (h : t ≠ s) : upd y s v t = y t := if_neg h
theorem putAll_size (ss : List Nat) (y : Nat → Value) : ∀ T : Array Value, (putAll T ss y).size = T.size := by
  induction ss with
  | nil => intro T; rfl
  | cons s r ih => intro T; show (putAll (T.setIfInBounds s (y s)) r y).size = _; rw [ih]; simp
theorem putAll_start (ss : List Nat) (T : Array Value) : putAll T ss (fun s => T.getD s undef) = T := by
  suffices h : ∀ (ss : List Nat) (T U : Array Value), (∀ s, T.getD s undef = U.getD s undef) → T.size = U.size → putAll T ss (fun s => U.getD s undef) = T by exact h ss T T (fun _ => rfl) rfl
  intro ss
  induction ss with
  | nil => intro T U _ _; rfl
  | cons s r ih =>
    intro T U h hs
    have e : T.setIfInBounds s (U.getD s undef) = T := by
      rw [← h s]
      apply Array.ext_getElem?
      intro i
      rw [Array.getElem?_setIfInBounds]
      by_cases e : s = i
      · subst e
        by_cases hi : s < T.size
        · simp [hi]
        · simp [hi]
      · rw [if_neg e]
    show putAll (T.setIfInBounds s (U.getD s undef)) r _ = T
    rw [e]
    exact ih T U h hs
theorem wpOp_hide {P : Program} {ops : Array Oper} {Q : Exit → Act → World → Prop} {i : Nat} {I : Act → World → Prop} {a : Act} {w : World} (h : ∀ K : Act → World → Prop, (∀ a' w', I a' w' → K a' w') → wpOp P ops Q i K a w) : wpOp P ops Q i I a w := h I fun _ _ h => h
theorem region_act {P : Program} {id : Nat} {Q : Exit → Act → World → Prop} {a : Act} {w : World} {ops : List Oper} (ss : List Nat) (hm : P.follows .mixedOrders = true) (hb : backB ops = true) (G : Array Bool → (Nat → Value) → World → Prop)
    (h0 : G (Array.replicate ops.length false) (fun s => a.tmps.getD s undef) (w.drewN 1))
    (hstep : ∀ a0, a0 = a → ∀ (i : Nat) (o : Oper) listed y w, ops[i]? = some o → i < ops.length → listed.size = ops.length → ClosedR .any ops.toArray listed → listed.getD i false = false → (∀ e ∈ o.after, Region.binds .any e = true → listed.getD e.on false = true) → G listed y w →
      wpOp P ops.toArray Q i (fun a' w' => ∃ y', a' = actY a0 ss y' ∧ G (listed.setIfInBounds i true) y' w') (actY a0 ss y) w)
    (hend : ∀ listed y w, (∀ j, j < ops.length → listed.getD j false = true) → G listed y w → Q .normal (actY a ss y) w) :
    (Code.region id ops.toArray true).wp P Q a w := by
  refine region_inv hm hb (fun listed a' w' => ∃ y, a' = actY a ss y ∧ G listed y w') ⟨_, ?_, h0⟩ ?_ ?_
  · show a = actY a ss _
    unfold actY
    rw [putAll_start]
  · rintro i o listed a' w' h1 h2 h3 h4 h5 h6 ⟨y, rfl, hg⟩
    exact hstep a rfl i o listed y w' h1 h2 h3 h4 h5 h6 hg
  · rintro listed a' w' h1 ⟨y, rfl, hg⟩
    exact hend listed y w' h1 hg

theorem putAll_get (ss : List Nat) (y : Nat → Value) (t : Nat) : ∀ T : Array Value, (putAll T ss y)[t]? = if t < T.size then some (if t ∈ ss then y t else T.getD t undef) else none := by
  induction ss with
  | nil =>
    intro T
    show T[t]? = _
    by_cases h : t < T.size
    · rw [if_pos h, if_neg (by simp), Array.getElem?_eq_getElem h]; simp [h]
    · rw [if_neg h, Array.getElem?_eq_none (by omega)]
  | cons s r ih =>
    intro T
    show (putAll (T.setIfInBounds s (y s)) r y)[t]? = _
    rw [ih]
    simp only [Array.size_setIfInBounds, List.mem_cons]
    by_cases h : t < T.size
    · rw [if_pos h, if_pos h]
      by_cases hr : t ∈ r
      · rw [if_pos hr, if_pos (.inr hr)]
      · rw [if_neg hr]
        by_cases e : t = s
        · subst e
          rw [if_pos (.inl rfl)]
          simp [h]
        · rw [if_neg (by rintro (h | h); exact e h; exact hr h)]
          congr 1
          have : (T.setIfInBounds s (y s))[t]? = T[t]? := by rw [Array.getElem?_setIfInBounds, if_neg (fun h => e h.symm)]
          rw [Array.getD_eq_getD_getElem?, Array.getD_eq_getD_getElem?, this]
    · rw [if_neg h, if_neg h]
theorem actY_put {a : Act} {ss : List Nat} {y : Nat → Value} {s : Nat} (h : s ∈ ss) (v : Value) : (actY a ss y).put (some s) v = actY a ss (upd y s v) := by
  unfold actY Act.put
  simp only [Act.mk.injEq, and_true]
  apply Array.ext_getElem?
  intro t
  rw [Array.getElem?_setIfInBounds, putAll_get, putAll_get, putAll_size]
  by_cases e : s = t
  · subst e
    rw [if_pos rfl, if_pos h, upd_same]
  · rw [if_neg e]
    by_cases h2 : t < a.tmps.size
    · rw [if_pos h2, if_pos h2, upd_ne _ _ (fun h => e h.symm)]
    · rw [if_neg h2, if_neg h2]
theorem actY_eval {a : Act} {ss : List Nat} {y : Nat → Value} {t : Nat} (ht : t < a.tmps.size) : (actY a ss y).eval (.tmp t) = if t ∈ ss then y t else a.eval (.tmp t) := by
  show (putAll a.tmps ss y).getD t undef = if t ∈ ss then y t else a.tmps.getD t undef
  rw [Array.getD_eq_getD_getElem?, putAll_get, if_pos ht]
  rfl
section
variable {P : Program} {ops : Array Oper} {Q : Exit → Act → World → Prop} {i : Nat} {o : Oper} {a : Act} {ss : List Nat} {y : Nat → Value} {w w1 : World} {G : (Nat → Value) → World → Prop}
/-- An operation that yields a value into its slot. -/
theorem opY_value {d : Nat} {v : Value} (ho : ops[i]? = some o) (hg : o.guard = none) (hd : o.dst = some d) (hs : d ∈ ss) (hr : (execOp (actY a ss y).eval o).run P w = .ok (.value v) w1) (h : G (upd y d v) w1) :
    wpOp P ops Q i (fun a' w' => ∃ y', a' = actY a ss y' ∧ G y' w') (actY a ss y) w := by
  unfold wpOp
  simp only [ho, Region.wanted, hg, if_true]
  refine .inl ?_
  unfold Oper.wp
  rw [hr]
  show ∃ y', (actY a ss y).put o.dst v = actY a ss y' ∧ G y' w1
  rw [hd, actY_put hs]
  exact ⟨_, rfl, h⟩
/-- One that leaves no value. -/
theorem opY_skip (ho : ops[i]? = some o) (hg : o.guard = none) (hd : o.dst = none) (hr : (execOp (actY a ss y).eval o).run P w = .ok .skip w1 ∨ ∃ v, (execOp (actY a ss y).eval o).run P w = .ok (.value v) w1) (h : G y w1) :
    wpOp P ops Q i (fun a' w' => ∃ y', a' = actY a ss y' ∧ G y' w') (actY a ss y) w := by
  unfold wpOp
  simp only [ho, Region.wanted, hg, if_true]
  refine .inl ?_
  unfold Oper.wp
  rcases hr with hr | ⟨v, hr⟩
  · rw [hr]
    show ∃ y', (actY a ss y).put o.dst undef = actY a ss y' ∧ G y' w1
    rw [hd]
    exact ⟨y, rfl, h⟩
  · rw [hr]
    show ∃ y', (actY a ss y).put o.dst v = actY a ss y' ∧ G y' w1
    rw [hd]
    exact ⟨y, rfl, h⟩
/-- A call. -/
theorem opY_call {d : Nat} {f : FuncId} {args : Array Value} (ho : ops[i]? = some o) (hg : o.guard = none) (hd : o.dst = some d) (hs : d ∈ ss) (hr : (execOp (actY a ss y).eval o).run P w = .ok (.enter f args) w1)
    (h : Calls P f args w1 fun e w2 => ∃ v, e = .returned v ∧ G (upd y d v) w2) :
    wpOp P ops Q i (fun a' w' => ∃ y', a' = actY a ss y' ∧ G y' w') (actY a ss y) w := by
  unfold wpOp
  simp only [ho, Region.wanted, hg, if_true]
  refine .inl ?_
  unfold Oper.wp
  rw [hr]
  refine Calls.mono h ?_
  rintro e w2 ⟨v, rfl, hG⟩
  show ∃ y', (actY a ss y).put o.dst v = actY a ss y' ∧ G y' w2
  rw [hd, actY_put hs]
  exact ⟨_, rfl, hG⟩
end

/-- A row, a map of the call's own: a store to another block leaves it. -/
theorem own_beside {w : World} {lo g : Nat} {v u : Value} {xs : List Int} {cs : Array Value} {t : TypeId} (h : Own w lo v xs) (hg : w.heap[g]? = some (.cells cs t (0, 0))) (ht : t ≠ 3) (k : Nat) : Own (w.setCell ⟨g, k, none⟩ u) lo v xs := by
  refine h.grown (row := some g) (grown_set w g k u) ?_
  rcases h.2 with ⟨rfl, _⟩ | ⟨g', cap', cur', rfl, _, hh', _⟩
  · exact .inl rfl
  · refine .inr fun e => ?_
    have : g' = g := by simpa [Value.ownBlock] using e
    subst this
    rw [hg] at hh'
    injection hh' with hh'
    injection hh' with _ h2
    exact ht h2

end Go.Proofs.Yteajaikgeephmaa
