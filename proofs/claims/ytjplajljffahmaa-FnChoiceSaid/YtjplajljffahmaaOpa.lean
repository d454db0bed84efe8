/-
  A region without an order of its own, in a round of a loop over a function: reads first, the one write last.
  A region without an order of its own, operation by operation: what holds of each value once it has come up, whatever the order. Also in a round of a range over a function.
  Operation by operation, the act told by what stands in the region's own slots.
-/
import Derived.Test.YtjplajljffahmaaKitSS
import Derived.StillTailTactics
import Derived.OrdersIn
namespace Go.Proofs.Ytjplajljffahmaa
open Go.RowKit

def onlyNormal (Q : Exit → Act → World → Prop) : Exit → Act → World → Prop := fun e a w => e = .normal ∧ Q .normal a w
theorem not_out (Q : Exit → Act → World → Prop) : ¬ LetsOut (onlyNormal Q) := by
  rintro ⟨a, w, h, _⟩
  cases h

variable {P : Program} {l n : Nat} {Q : Exit → Act → World → Prop}

theorem oper_round {o : Oper} {a : Act} {w : World} {K : Act → World → Prop} (hd : ∀ c, o.op ≠ .defer c) (h : o.wp P a w K (onlyNormal Q)) : o.wpIn (Fence.wide.inRound l) n P a w K Q := by
  refine ⟨fun _ _ => trivial, ?_⟩
  rw [show (Fence.wide.inRound l).round = some l from rfl, Oper.semAt_some l _ _ hd]
  unfold Oper.wp at h
  generalize (execOp a.eval o).run P w = r at h ⊢
  cases r with
  | ok x w' =>
    cases x with
    | value v => exact h
    | skip => exact h
    | defer d => exact h
    | enter f args =>
      refine ⟨fun e => (by cases e), ?_⟩
      have h2 : Calls P f args w' _ := h
      refine (CallsIn.inRound l (callsIn_wide.2 h2)).mono ?_
      rintro e w2 hp
      cases e with
      | returned v => exact hp
      | panicked chain => cases hp.1
      | outgrown => exact absurd hp (not_out Q)
    | row row args =>
      refine ⟨fun e => (by cases e), fun c cs _ => ?_⟩
      have h2 : Go.Rows P row args w' _ := h
      obtain ⟨v, w2, hr, hs⟩ := h2 c cs
      exact ⟨v, w2, hr, stepsIn_wide.2 hs⟩
    | _ => exact h.elim
  | halt hh w' =>
    cases hh with
    | panic v => cases h.1
    | _ => exact h.elim

theorem wpOp_round {ops : Array Oper} (hd : ∀ (i : Nat) (o : Oper), ops[i]? = some o → ∀ c, o.op ≠ .defer c) {i : Nat} {K : Act → World → Prop} {a : Act} {w : World} (h : wpOp P ops (onlyNormal Q) i K a w) :
    wpOpIn (Fence.wide.inRound l) n P ops Q i K a w := by
  unfold wpOp at h
  unfold wpOpIn
  cases ho : ops[i]? with
  | none => simpa [ho] using h
  | some o =>
    simp only [ho] at h
    simp only
    by_cases hw : Region.wanted o (yielded ops a.tmps) = true
    · rw [if_pos hw] at h ⊢
      rcases h with h | ⟨_, h⟩
      · exact oper_round (hd i o ho) h
      · exact absurd h (not_out Q)
    · rw [if_neg hw] at h ⊢
      exact ⟨fun _ _ => trivial, h⟩
theorem wpAny_round {md : Region.Mode} {ops : Array Oper} (hd : ∀ (i : Nat) (o : Oper), ops[i]? = some o → ∀ c, o.op ≠ .defer c) : ∀ (fuel : Nat) (listed : Array Bool) (a : Act) (w : World),
    wpAny P md ops (onlyNormal Q) fuel listed a w → wpAnyIn (Fence.wide.inRound l) n P md ops Q fuel listed a w
  | 0, _, _, _, h => ⟨h.1, h.2.2⟩
  | fuel + 1, _, _, _, h => ⟨fun hr => (h.1 hr).2, fun i hi => wpOp_round hd (wpOp_mono (fun a' w' h' => wpAny_round hd fuel _ a' w' h') (h.2 i hi))⟩

def noDefer (ops : List Oper) : Bool := ops.all fun o => match o.op with | .defer _ => false | _ => true
theorem noDefer_spec {ops : List Oper} (h : noDefer ops = true) (i : Nat) (o : Oper) (ho : ops.toArray[i]? = some o) : ∀ c, o.op ≠ .defer c := by
  intro c e
  have hm : o ∈ ops := List.mem_of_getElem? (by simpa using ho)
  have := List.all_eq_true.1 h o hm
  rw [e] at this
  cases this

theorem round_still_tail {id : Nat} {a : Act} {w : World} {ops : List Oper} (k : Nat) (hm : P.follows .mixedOrders = true) (hB : Region.lexTailB .any ops.toArray k = true) (hnd : noDefer ops = true)
    (h : wpStill P ops.toArray { w with drawn := w.drawn + 1 } (fun a' => wpList P ops.toArray (onlyNormal Q) (ops.drop k) a' { w with drawn := w.drawn + 1 }) (ops.take k) a) :
    (Code.region id ops.toArray true).wpIn (Fence.wide.inRound l) n P Q a w := by
  simp only [Region.lexTailB, Bool.and_eq_true, decide_eq_true_eq] at hB
  obtain ⟨⟨⟨⟨hsel, hn⟩, hs⟩, hc⟩, hlex⟩ := hB
  have hn' : k < ops.length := by simpa using hn
  have htl : (ops.take k).length = k := by simp; omega
  have hdl : (ops.drop k).length = ops.toArray.size - k := by simp
  have inv0 : HeadInv .any ops.toArray k (Array.replicate ops.toArray.size false) :=
    ⟨by simp, fun j oj _ hl => (by rw [getD_replicate_false] at hl; cases hl), fun t _ ht => getD_in (by simpa using ht) (getD_replicate_false _ _)⟩
  have H := wpAnyL_lex (md := .any) (g := ops.toArray.size - k) hsel hs hc hn (ops.take k) 0 _ a (fun j hj => by
    have hj' : j < k := by rw [htl] at hj; exact hj
    simp [hj']) (by simpa using htl) inv0 (by rw [htl]; exact hlex) h
  refine wpIn_region_any hm (wpAny_round (noDefer_spec hnd) _ _ _ _ ?_)
  have := wpAny_of_head (Q' := onlyNormal Q) (g := ops.toArray.size - k) (fun listed a' hL => by
    have := wpAny_of_seq (md := .any) (Q' := onlyNormal Q) (ops.drop k) k listed a' { w with drawn := w.drawn + 1 } (fun j => by simp [List.getElem?_drop]) (by rw [hdl]; exact hL.1) hL.2
    rwa [hdl] at this) _ _ _ H
  rw [htl, show k + (ops.toArray.size - k) = ops.toArray.size by omega] at this
  exact this

end Go.Proofs.Ytjplajljffahmaa

namespace Go.Proofs.Ytjplajljffahmaa
open Go.RowKit

section
variable {P : Program} {md : Region.Mode} {ops : Array Oper} {Q : Exit → Act → World → Prop}
theorem count_less {P Q : Nat → Bool} (n y : Nat) (hy : y < n) (h : ∀ x, x < n → P x = true → Q x = true) (hp : P y = false) (hq : Q y = true) : (List.range n).countP P < (List.range n).countP Q := by
  induction n with
  | zero => omega
  | succ n ih =>
    rw [List.range_succ, List.countP_append, List.countP_append]
    simp only [List.countP_cons, List.countP_nil]
    by_cases e : y = n
    · subst e
      have hle : (List.range y).countP P ≤ (List.range y).countP Q := List.countP_mono_left fun x hx => h x (by have := List.mem_range.1 hx; omega)
      rw [hp, hq]
      simp
      omega
    · have := ih (by omega) (fun x hx => h x (by omega))
      have h2 := h n (by omega)
      by_cases hpn : P n = true
      · rw [hpn, h2 hpn]; omega
      · rw [show P n = false by simpa using hpn]; simp; omega
theorem listed_same {l : Array Bool} {i : Nat} (hi : i < l.size) : (l.setIfInBounds i true).getD i false = true := by simp [hi]
theorem listed_other {l : Array Bool} {i j : Nat} (h : i ≠ j) : (l.setIfInBounds i true).getD j false = l.getD j false := getD_set_ne false h

/-- What an operation waits for has come up. -/
def ClosedR (md : Region.Mode) (ops : Array Oper) (listed : Array Bool) : Prop :=
  ∀ (j : Nat) (o : Oper), ops[j]? = some o → listed.getD j false = true → ∀ e ∈ o.after, Region.binds md e = true → listed.getD e.on false = true
def leftN (ops : Array Oper) (listed : Array Bool) : Nat := (List.range ops.size).countP fun j => !listed.getD j false
/-- The last operation waits, by others, for all ahead of it. -/
def lastB (md : Region.Mode) (ops : Array Oper) (k : Nat) : Bool := (List.range k).all fun j => (List.range (k + 1)).any fun i => decide (j < i) && Region.waitsFor md ops i j
theorem ClosedR.all {listed : Array Bool} {k : Nat} (hc : ClosedR md ops listed) (hs : lastB md ops k = true) (hk : listed.getD k false = true) : ∀ d j, k - j = d → j ≤ k → listed.getD j false = true := by
  intro d
  induction d using Nat.strongRecOn with
  | _ d ih =>
    intro j hd hj
    by_cases e : j = k
    · rw [e]; exact hk
    · obtain ⟨i, hi, h2⟩ := List.any_eq_true.1 (List.all_eq_true.1 hs j (List.mem_range.2 (by omega)))
      simp only [Bool.and_eq_true, decide_eq_true_eq] at h2
      have hik := List.mem_range.1 hi
      obtain ⟨o, ho, e, he, hb, hon⟩ := Region.waitsFor_spec h2.2
      have := hc i o ho (ih (k - i) (by omega) i rfl (by omega)) e he hb
      rwa [hon] at this
theorem wpAny_inv (Inv : Array Bool → Act → World → Prop) (hback : ∀ (j : Nat) (o : Oper), ops[j]? = some o → ∀ e ∈ o.after, Region.binds md e = true → e.on < j)
    (hstep : ∀ (i : Nat) (o : Oper) listed a w, ops[i]? = some o → i < ops.size → listed.size = ops.size → ClosedR md ops listed → listed.getD i false = false → (∀ e ∈ o.after, Region.binds md e = true → listed.getD e.on false = true) → Inv listed a w → wpOp P ops Q i (Inv (listed.setIfInBounds i true)) a w)
    (hend : ∀ listed a w, (∀ j, j < ops.size → listed.getD j false = true) → Inv listed a w → Q .normal a w) :
    ∀ (fuel : Nat) (listed : Array Bool) (a : Act) (w : World), listed.size = ops.size → ClosedR md ops listed → leftN ops listed ≤ fuel → Inv listed a w → wpAny P md ops Q fuel listed a w := by
  have hall : ∀ listed : Array Bool, listed.size = ops.size → Region.ready md ops listed = [] → ∀ j, j < ops.size → listed.getD j false = true := fun listed hs hr j => by
    induction j using Nat.strongRecOn with
    | _ j ih =>
      intro hj
      apply Decidable.byContradiction
      intro hne
      have hf : listed.getD j true = false := by
        have h1 : j < listed.size := by omega
        simp [h1] at hne ⊢; exact hne
      obtain ⟨o, ho⟩ : ∃ o, ops[j]? = some o := ⟨_, Array.getElem?_eq_getElem hj⟩
      have : j ∈ Region.ready md ops listed := mem_ready.2 ⟨hf, o, ho, fun e he hb => ih e.on (hback j o ho e he hb) (by have := hback j o ho e he hb; omega)⟩
      rw [hr] at this
      cases this
  have hun : ∀ (listed : Array Bool) (i : Nat), i ∈ Region.ready md ops listed → listed.getD i false = false ∧ i < ops.size ∧ ∃ o, ops[i]? = some o ∧ ∀ e ∈ o.after, Region.binds md e = true → listed.getD e.on false = true := fun listed i hi => by
    obtain ⟨h1, o, ho, h2⟩ := mem_ready.1 hi
    exact ⟨getD_both h1, (Array.getElem?_eq_some_iff.1 ho).1, o, ho, h2⟩
  intro fuel
  induction fuel with
  | zero =>
    intro listed a w hs hc hl hi
    have h0 : ∀ j, j < ops.size → listed.getD j false = true := fun j hj => by
      cases hb : listed.getD j false with
      | true => rfl
      | false =>
        have h1 : (List.range ops.size).countP (fun j => !listed.getD j false) = 0 := by unfold leftN at hl; omega
        have h2 := List.countP_eq_zero.1 h1 j (List.mem_range.2 hj)
        rw [hb] at h2
        exact absurd rfl h2
    refine ⟨?_, hend listed a w h0 hi⟩
    cases hr : Region.ready md ops listed with
    | nil => rfl
    | cons i r =>
      have h1 := hun listed i (by rw [hr]; simp)
      rw [h0 i h1.2.1] at h1
      cases h1.1
  | succ fuel ih =>
    intro listed a w hs hc hl hi
    refine ⟨fun hr => hend listed a w (hall listed hs hr) hi, fun i hir => ?_⟩
    obtain ⟨h1, h2, o, ho, h3⟩ := hun listed i hir
    refine wpOp_mono (fun a' w' h' => ih _ a' w' (by simpa using hs) ?_ ?_ h') (hstep i o listed a w ho h2 hs hc h1 h3 hi)
    · intro j oj hj hlj e he hb
      by_cases eij : i = j
      · subst eij
        have : oj = o := Option.some.inj (hj.symm.trans ho)
        subst this
        exact getD_set_true (h3 e he hb)
      · rw [listed_other eij] at hlj
        exact getD_set_true (hc j oj hj hlj e he hb)
    · have := count_less (P := fun j => !(listed.setIfInBounds i true).getD j false) (Q := fun j => !listed.getD j false) ops.size i h2 (fun x _ hx => by
        by_cases e : i = x
        · subst e
          rw [listed_same (by omega)] at hx
          cases hx
        · rwa [listed_other e] at hx) (by rw [listed_same (by omega)]; rfl) (by rw [h1]; rfl)
      unfold leftN at hl ⊢
      omega
theorem closed_none (n : Nat) : ClosedR md ops (Array.replicate n false) := fun j o _ h => by rw [getD_replicate_false] at h; cases h
end

def backB (ops : List Oper) : Bool := (List.range ops.length).all fun j => match ops[j]? with | some o => o.after.all fun e => !Region.binds .any e || decide (e.on < j) | none => true
theorem backB_spec {ops : List Oper} (h : backB ops = true) (j : Nat) (o : Oper) (ho : ops.toArray[j]? = some o) : ∀ e ∈ o.after, Region.binds .any e = true → e.on < j := by
  intro e he hbd
  have ho' : ops[j]? = some o := by simpa using ho
  have hj : j < ops.length := (List.getElem?_eq_some_iff.1 ho').1
  have h1 := List.all_eq_true.1 h j (List.mem_range.2 hj)
  rw [ho'] at h1
  have h2 := Array.all_eq_true'.1 h1 e he
  simpa [hbd] using h2

/-- In a round of a range over a function. -/
theorem round_inv {P : Program} {l n id : Nat} {Q : Exit → Act → World → Prop} {a : Act} {w : World} {ops : List Oper} (hm : P.follows .mixedOrders = true) (hb : backB ops = true) (hnd : noDefer ops = true) (Inv : Array Bool → Act → World → Prop)
    (h0 : Inv (Array.replicate ops.length false) a { w with drawn := w.drawn + 1 })
    (hstep : ∀ (i : Nat) (o : Oper) listed a w, ops[i]? = some o → i < ops.length → listed.size = ops.length → ClosedR .any ops.toArray listed → listed.getD i false = false → (∀ e ∈ o.after, Region.binds .any e = true → listed.getD e.on false = true) → Inv listed a w → wpOp P ops.toArray (onlyNormal Q) i (Inv (listed.setIfInBounds i true)) a w)
    (hend : ∀ listed a w, (∀ j, j < ops.length → listed.getD j false = true) → Inv listed a w → Q .normal a w) :
    (Code.region id ops.toArray true).wpIn (Fence.wide.inRound l) n P Q a w := by
  refine wpIn_region_any hm (wpAny_round (noDefer_spec hnd) _ _ _ _ ?_)
  refine wpAny_inv Inv (backB_spec hb) (fun i o listed a w ho hi hs hc h1 h2 h3 => hstep i o listed a w (by simpa using ho) (by simpa using hi) (by simpa using hs) hc h1 h2 h3) (fun listed a w h h' => ⟨rfl, hend listed a w (by simpa using h) h'⟩) _ _ a _ (by simp) (closed_none _) ?_ (by simpa using h0)
  unfold leftN
  exact Nat.le_trans List.countP_le_length (by simp)
/-- A region that stands by itself. -/
theorem region_inv {P : Program} {id : Nat} {Q : Exit → Act → World → Prop} {a : Act} {w : World} {ops : List Oper} (hm : P.follows .mixedOrders = true) (hb : backB ops = true) (Inv : Array Bool → Act → World → Prop)
    (h0 : Inv (Array.replicate ops.length false) a { w with drawn := w.drawn + 1 })
    (hstep : ∀ (i : Nat) (o : Oper) listed a w, ops[i]? = some o → i < ops.length → listed.size = ops.length → ClosedR .any ops.toArray listed → listed.getD i false = false → (∀ e ∈ o.after, Region.binds .any e = true → listed.getD e.on false = true) → Inv listed a w → wpOp P ops.toArray Q i (Inv (listed.setIfInBounds i true)) a w)
    (hend : ∀ listed a w, (∀ j, j < ops.length → listed.getD j false = true) → Inv listed a w → Q .normal a w) :
    (Code.region id ops.toArray true).wp P Q a w := by
  refine wp_region_any hm ?_
  refine wpAny_inv Inv (backB_spec hb) (fun i o listed a w ho hi hs hc h1 h2 h3 => hstep i o listed a w (by simpa using ho) (by simpa using hi) (by simpa using hs) hc h1 h2 h3) (fun listed a w h h' => hend listed a w (by simpa using h) h') _ _ a _ (by simp) (closed_none _) ?_ (by simpa using h0)
  unfold leftN
  exact Nat.le_trans List.countP_le_length (by simp)

end Go.Proofs.Ytjplajljffahmaa

namespace Go.Proofs.Ytjplajljffahmaa
open Go.RowKit

/-- The slots ss of an act, filled by y. -/
def putAll (T : Array Value) (ss : List Nat) (y : Nat → Value) : Array Value := ss.foldl (fun t s => t.setIfInBounds s (y s)) T
def actY (a : Act) (ss : List Nat) (y : Nat → Value) : Act := { tmps := putAll a.tmps ss y, defers := a.defers }
def upd (y : Nat → Value) (s : Nat) (v : Value) : Nat → Value := fun t => if t = s then v else y t
theorem upd_same (y : Nat → Value) (s : Nat) (v : Value) : upd y s v s = v := if_pos rfl
theorem upd_ne (y : Nat → Value) {s t : Nat} (v : Value) (h : t ≠ s) : upd y s v t = y t := if_neg h
theorem putAll_size (ss : List Nat) (y : Nat → Value) : ∀ T : Array Value, (putAll T ss y).size = T.size := by
  induction ss with
  | nil => intro T; rfl
  | cons s r ih => intro T; show (putAll (T.setIfInBounds s (y s)) r y).size = _; rw [ih]; simp
theorem putAll_start (ss : List Nat) (T : Array Value) : putAll T ss (fun s => T.getD s undef) = T := by
  suffices h : ∀ (ss : List Nat) (T U : Array Value), (∀ s, T.getD s undef = U.getD s undef) → T.size = U.size → putAll T ss (fun s => U.getD s undef) = T by exact h ss T T (fun _ => rfl) rfl
  intro ss
  induction ss with
  | nil => intro T U _ _; rfl
  | cons s r ih =>
    intro T U h hs
    have e : T.setIfInBounds s (U.getD s undef) = T := by
      rw [← h s]
      apply Array.ext_getElem?
      intro i
      rw [Array.getElem?_setIfInBounds]
      by_cases e : s = i
      · subst e
        by_cases hi : s < T.size
        · simp [hi]
        · simp [hi]
      · rw [if_neg e]
    show putAll (T.setIfInBounds s (U.getD s undef)) r _ = T
    rw [e]
    exact ih T U h hs
theorem wpOp_hide {P : Program} {ops : Array Oper} {Q : Exit → Act → World → Prop} {i : Nat} {I : Act → World → Prop} {a : Act} {w : World} (h : ∀ K : Act → World → Prop, (∀ a' w', I a' w' → K a' w') → wpOp P ops Q i K a w) : wpOp P ops Q i I a w := h I fun _ _ h => h
theorem region_act {P : Program} {id : Nat} {Q : Exit → Act → World → Prop} {a : Act} {w : World} {ops : List Oper} (ss : List Nat) (hm : P.follows .mixedOrders = true) (hb : backB ops = true) (G : Array Bool → (Nat → Value) → World → Prop)
    (h0 : G (Array.replicate ops.length false) (fun s => a.tmps.getD s undef) (w.drewN 1))
    (hstep : ∀ a0, a0 = a → ∀ (i : Nat) (o : Oper) listed y w, ops[i]? = some o → i < ops.length → listed.size = ops.length → ClosedR .any ops.toArray listed → listed.getD i false = false → (∀ e ∈ o.after, Region.binds .any e = true → listed.getD e.on false = true) → G listed y w →
      wpOp P ops.toArray Q i (fun a' w' => ∃ y', a' = actY a0 ss y' ∧ G (listed.setIfInBounds i true) y' w') (actY a0 ss y) w)
    (hend : ∀ listed y w, (∀ j, j < ops.length → listed.getD j false = true) → G listed y w → Q .normal (actY a ss y) w) :
    (Code.region id ops.toArray true).wp P Q a w := by
  refine region_inv hm hb (fun listed a' w' => ∃ y, a' = actY a ss y ∧ G listed y w') ⟨_, ?_, h0⟩ ?_ ?_
  · show a = actY a ss _
    unfold actY
    rw [putAll_start]
  · rintro i o listed a' w' h1 h2 h3 h4 h5 h6 ⟨y, rfl, hg⟩
    exact hstep a rfl i o listed y w' h1 h2 h3 h4 h5 h6 hg
  · rintro listed a' w' h1 ⟨y, rfl, hg⟩
    exact hend listed y w' h1 hg

theorem putAll_get (ss : List Nat) (y : Nat → Value) (t : Nat) : ∀ T : Array Value, (putAll T ss y)[t]? = if t < T.size then some (if t ∈ ss then y t else T.getD t undef) else none := by
  induction ss with
  | nil =>
    intro T
    show T[t]? = _
    by_cases h : t < T.size
    · rw [if_pos h, if_neg (by simp), Array.getElem?_eq_getElem h]; simp [h]
    · rw [if_neg h, Array.getElem?_eq_none (by omega)]
  | cons s r ih =>
    intro T
    show (putAll (T.setIfInBounds s (y s)) r y)[t]? = _
    rw [ih]
    simp only [Array.size_setIfInBounds, List.mem_cons]
    by_cases h : t < T.size
    · rw [if_pos h, if_pos h]
      by_cases hr : t ∈ r
      · rw [if_pos hr, if_pos (.inr hr)]
      · rw [if_neg hr]
        by_cases e : t = s
        · subst e
          rw [if_pos (.inl rfl)]
          simp [h]
        · rw [if_neg (by rintro (h | h); exact e h; exact hr h)]
          congr 1
          have : (T.setIfInBounds s (y s))[t]? = T[t]? := by rw [Array.getElem?_setIfInBounds, if_neg (fun h => e h.symm)]
          rw [Array.getD_eq_getD_getElem?, Array.getD_eq_getD_getElem?, this]
    · rw [if_neg h, if_neg h]
theorem actY_put {a : Act} {ss : List Nat} {y : Nat → Value} {s : Nat} (h : s ∈ ss) (v : Value) : (actY a ss y).put (some s) v = actY a ss (upd y s v) := by
  unfold actY Act.put
  simp only [Act.mk.injEq, and_true]
  apply Array.ext_getElem?
  intro t
  rw [Array.getElem?_setIfInBounds, putAll_get, putAll_get, putAll_size]
  by_cases e : s = t
  · subst e
    rw [if_pos rfl, if_pos h, upd_same]
  · rw [if_neg e]
    by_cases h2 : t < a.tmps.size
    · rw [if_pos h2, if_pos h2, upd_ne _ _ (fun h => e h.symm)]
    · rw [if_neg h2, if_neg h2]
theorem actY_eval {a : Act} {ss : List Nat} {y : Nat → Value} {t : Nat} (ht : t < a.tmps.size) : (actY a ss y).eval (.tmp t) = if t ∈ ss then y t else a.eval (.tmp t) := by
  show (putAll a.tmps ss y).getD t undef = if t ∈ ss then y t else a.tmps.getD t undef
  rw [Array.getD_eq_getD_getElem?, putAll_get, if_pos ht]
  rfl
section
variable {P : Program} {ops : Array Oper} {Q : Exit → Act → World → Prop} {i : Nat} {o : Oper} {a : Act} {ss : List Nat} {y : Nat → Value} {w w1 : World} {G : (Nat → Value) → World → Prop}
/-- An operation that yields a value into its slot. -/
theorem opY_value {d : Nat} {v : Value} (ho : ops[i]? = some o) (hg : o.guard = none) (hd : o.dst = some d) (hs : d ∈ ss) (hr : (execOp (actY a ss y).eval o).run P w = .ok (.value v) w1) (h : G (upd y d v) w1) :
    wpOp P ops Q i (fun a' w' => ∃ y', a' = actY a ss y' ∧ G y' w') (actY a ss y) w := by
  unfold wpOp
  simp only [ho, Region.wanted, hg, if_true]
  refine .inl ?_
  unfold Oper.wp
  rw [hr]
  show ∃ y', (actY a ss y).put o.dst v = actY a ss y' ∧ G y' w1
  rw [hd, actY_put hs]
  exact ⟨_, rfl, h⟩
/-- One that leaves no value. -/
theorem opY_skip (ho : ops[i]? = some o) (hg : o.guard = none) (hd : o.dst = none) (hr : (execOp (actY a ss y).eval o).run P w = .ok .skip w1 ∨ ∃ v, (execOp (actY a ss y).eval o).run P w = .ok (.value v) w1) (h : G y w1) :
    wpOp P ops Q i (fun a' w' => ∃ y', a' = actY a ss y' ∧ G y' w') (actY a ss y) w := by
  unfold wpOp
  simp only [ho, Region.wanted, hg, if_true]
  refine .inl ?_
  unfold Oper.wp
  rcases hr with hr | ⟨v, hr⟩
  · rw [hr]
    show ∃ y', (actY a ss y).put o.dst undef = actY a ss y' ∧ G y' w1
    rw [hd]
    exact ⟨y, rfl, h⟩
  · rw [hr]
    show ∃ y', (actY a ss y).put o.dst v = actY a ss y' ∧ G y' w1
    rw [hd]
    exact ⟨y, rfl, h⟩
/-- A call. -/
theorem opY_call {d : Nat} {f : FuncId} {args : Array Value} (ho : ops[i]? = some o) (hg : o.guard = none) (hd : o.dst = some d) (hs : d ∈ ss) (hr : (execOp (actY a ss y).eval o).run P w = .ok (.enter f args) w1)
    (h : Calls P f args w1 fun e w2 => ∃ v, e = .returned v ∧ G (upd y d v) w2) :
    wpOp P ops Q i (fun a' w' => ∃ y', a' = actY a ss y' ∧ G y' w') (actY a ss y) w := by
  unfold wpOp
  simp only [ho, Region.wanted, hg, if_true]
  refine .inl ?_
  unfold Oper.wp
  rw [hr]
  refine Calls.mono h ?_
  rintro e w2 ⟨v, rfl, hG⟩
  show ∃ y', (actY a ss y).put o.dst v = actY a ss y' ∧ G y' w2
  rw [hd, actY_put hs]
  exact ⟨_, rfl, hG⟩
end

/-- A row, a map of the call's own: a store to another block leaves it. -/
theorem own_beside {w : World} {lo g : Nat} {v u : Value} {xs : List Int} {cs : Array Value} {t : TypeId} (h : Own w lo v xs) (hg : w.heap[g]? = some (.cells cs t (0, 0))) (ht : t ≠ 3) (k : Nat) : Own (w.setCell ⟨g, k, none⟩ u) lo v xs := by
  refine h.grown (row := some g) (grown_set w g k u) ?_
  rcases h.2 with ⟨rfl, _⟩ | ⟨g', cap', cur', rfl, _, hh', _⟩
  · exact .inl rfl
  · refine .inr fun e => ?_
    have : g' = g := by simpa [Value.ownBlock] using e
    subst this
    rw [hg] at hh'
    injection hh' with hh'
    injection hh' with _ h2
    exact ht h2

end Go.Proofs.Ytjplajljffahmaa
