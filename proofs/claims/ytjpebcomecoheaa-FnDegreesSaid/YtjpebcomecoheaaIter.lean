/-
  A loop over the cycles of a permutation: what the loop's body keeps for the iterator, what the iterator keeps for the loop, and the loop's rule.
-/
import Derived.Test.YtjpebcomecoheaaSeen
import Derived.RangeFuncNested
import Derived.RangeFuncBound
import Derived.RangeFuncCalls
import Derived.RangeFuncLeaves
import Derived.RangeFuncBox
import Derived.Shelf.Abstract
import Derived.Shelf.RegionOpen
import Derived.OwnWalkIn
import Derived.TacticsInMore
import Derived.LoopNIn
import Derived.LoopIn
namespace Go.Proofs.Ytjpebcomecoheaa
open Go.RowKit Go.Shelf

/-- The types whose blocks a body leaves alone: the iterator's marks, and the variable that holds the permutation. -/
def Shut (o : Obj) : Prop := o.isCells = false ∨ ∃ cs, o = .cells cs 63 (0, 0) ∨ o = .cells cs 59 (0, 0)

/-- What one round of the body keeps. -/
structure Keep (n₀ : Nat) (W W' : World) : Prop where
  below : Below n₀ W W'
  kept : ∀ (k : Nat) (o : Obj), W.heap[k]? = some o → Shut o → W'.heap[k]? = some o

theorem Keep.refl (n₀ : Nat) (W : World) : Keep n₀ W W := ⟨Below.refl _ _, fun _ _ h _ => h⟩
theorem Keep.trans {n₀ : Nat} {A B C : World} (h : Keep n₀ A B) (k : Keep n₀ B C) : Keep n₀ A C := ⟨h.below.trans k.below, fun i o hi ho => k.kept i o (h.kept i o hi ho) ho⟩
theorem Keep.alloc {n₀ : Nat} {A B : World} (h : Keep n₀ A B) (hn : n₀ ≤ B.heap.size) (o : Obj) : Keep n₀ A (B.alloc o) :=
  ⟨h.below.alloc hn o, fun i q hi hq => by
    have h1 := h.kept i q hi hq
    exact (Below.heap_alloc B o i (Array.getElem?_eq_some_iff.1 h1).1).trans h1⟩
theorem Keep.drewN {n₀ : Nat} {A B : World} (h : Keep n₀ A B) (n : Nat) : Keep n₀ A (B.drewN n) := ⟨below_drewN h.below n, h.kept⟩
theorem Keep.grown {n₀ : Nat} {A B C : World} {row : Option Nat} (h : Keep n₀ A B) (hn : n₀ ≤ B.heap.size) (hg : B.grownBy C row)
    (hr : ∀ r, row = some r → n₀ ≤ r ∧ ∃ o : Obj, B.heap[r]? = some o ∧ ¬ Shut o) : Keep n₀ A C :=
  ⟨h.below.grown hg hn (fun k hk => (hr k hk).1), fun i o hi ho => by
    have h1 := h.kept i o hi ho
    refine (hg.block i (Array.getElem?_eq_some_iff.1 h1).1 (fun e => ?_)).trans h1
    obtain ⟨_, o', h2, h3⟩ := hr i e.symm
    rw [h1] at h2
    injection h2 with h2
    subst h2
    exact h3 ho⟩
theorem not_shut {cs : Array Value} {t : TypeId} {fr : Nat × Nat} (h1 : t ≠ 63) (h2 : t ≠ 59) : ¬ Shut (.cells cs t fr) := by
  rintro (h | ⟨cs', h | h⟩)
  · simp [Obj.isCells] at h
  · injection h with _ h; exact h1 h
  · injection h with _ h; exact h2 h

/-- What the iterator keeps between two rounds: all but its own marks, which lie from block L on. -/
structure Goes (L : Nat) (W W' : World) : Prop where
  os : W'.os = W.os
  tape : W'.tape = W.tape
  output : W'.output = W.output
  size : W.heap.size ≤ W'.heap.size
  block : ∀ k : Nat, k < W.heap.size → (k < L ∨ ∀ cs, W.heap[k]? ≠ some (.cells cs 63 (0, 0))) → W'.heap[k]? = W.heap[k]?
theorem Goes.refl (L : Nat) (W : World) : Goes L W W := ⟨rfl, rfl, rfl, Nat.le_refl _, fun _ _ _ => rfl⟩
theorem Goes.of_below {L : Nat} {W W' : World} (h : Below W.heap.size W W') : Goes L W W' := ⟨h.os, h.tape, h.output, h.size, fun k hk _ => h.block k hk⟩
theorem Goes.below {L : Nat} {W W' : World} (h : Goes L W W') (hL : L ≤ W.heap.size) : Below L W W' := ⟨h.os, h.tape, h.output, h.size, fun k hk => h.block k (by omega) (.inl hk)⟩
theorem Goes.of_marks {L : Nat} {W W' : World} {b N : Nat} {vis : List Nat} (hg : W.grownBy W' (some b)) (hs : SeenT W b 63 N vis) (hL : L ≤ b) : Goes L W W' :=
  ⟨hg.os, hg.tape, hg.output, hg.size, fun k hk hc => hg.block k hk (fun e => by
    injection e with e
    subst e
    rcases hc with hc | hc
    · omega
    · obtain ⟨cs, h, _⟩ := hs
      exact hc cs h)⟩

variable {F : Fence} {n : Nat}

/-- Where a slice that came in lies. -/
theorem Rd.kept {w w' : World} {A : Option Addr} {m n₀ : Nat} {xs : List Int} (h : Rd w A m xs) (hA : ∀ ad : Addr, A = some ad → 0 < m → ad.block < n₀) (hb : Below n₀ w w') : Rd w' A m xs :=
  ⟨h.1, fun hn => by
    obtain ⟨ad, e, hc⟩ := h.2 hn
    exact ⟨ad, e, fun j hj => (hb.cell (by rw [add_block]; exact hA ad e hn)).trans (hc j hj)⟩⟩

/-- The iterator's part: what it does for whoever gives it rounds. -/
def Gives (F : Fence) (n : Nat) (Bn n₀ L : Nat) (xs : List (List Int)) (W0 : World) : Prop :=
  ∀ (l : Nat) (J : List (List Int) → World → Prop) (W : World), Below W0.heap.size W0 W →
    (∀ pre A B, J pre A → Goes L A B → J pre B) →
    (∀ pre x v Wp W1, J pre Wp → Goes L Wp W1 → L ≤ Wp.heap.size → Own W1 Wp.heap.size v x → pre ++ [x] <+: xs → YieldAt F (n - 1) Try.prog l #[v] W1 fun e W' => e = .returned (.bool true) ∧ J (pre ++ [x]) W' ∧ Keep n₀ W1 W') →
    J [] W →
    CallsIn F n Try.prog 107 (#[.func (.yield l) #[] #[]] ++ #[.pointer (some ⟨Bn, 0, none⟩)]) W fun e W' => (∃ v, e = .returned v) ∧ J xs W'

def roundEnd (n₀ : Nat) (I : List (List Int) → World → Prop) (xs : List (List Int)) (W : World) : Exit → Act → World → Prop
  | .normal, _, W' => Keep n₀ W W' ∧ I xs W'
  | _, _, _ => False

theorem keep_put {n₀ : Nat} {W : World} {l : Nat} {r r' : Loop} (hl : W.heap[l]? = some (.loop r)) (hn : n₀ ≤ l) : Below n₀ W (W.putObj l (.loop r')) :=
  (Below.refl n₀ W).grown (grownBy_putObj' W l _) (by have := (Array.getElem?_eq_some_iff.1 hl).1; omega) (fun k e => by cases e; exact hn)

theorem Goes.box {L : Nat} {A B : World} {b : Nat} {cs : Array Value} {t : TypeId} (hgo : Goes L A B) (h : A.heap[b]? = some (.cells cs t (0, 0))) (ht : t ≠ 63) : B.heap[b]? = some (.cells cs t (0, 0)) :=
  (hgo.block b (Array.getElem?_eq_some_iff.1 h).1 (.inr fun cs' e => by rw [h] at e; injection e with e; injection e with _ e; exact ht e)).trans h
theorem put_box {W : World} {b l : Nat} {cs : Array Value} {t : TypeId} {fr : Nat × Nat} {o o' : Obj} (h : W.heap[b]? = some (.cells cs t fr)) (hl : W.heap[l]? = some o) (ho : o.isCells = false) : (W.putObj l o').heap[b]? = some (.cells cs t fr) := by
  refine (World.putObj_heap_other (fun e => ?_)).trans h
  subst e
  rw [h] at hl
  injection hl with hl
  subst hl
  simp [Obj.isCells] at ho
theorem put_below {n₀ : Nat} {W : World} {l : Nat} (o' : Obj) (hn : n₀ ≤ l) (hz : n₀ ≤ W.heap.size) : Below n₀ W (W.putObj l o') :=
  (Below.refl n₀ W).grown (grownBy_putObj' W l o') hz (fun k e => by cases e; exact hn)
theorem set_box {W : World} {b : Nat} {u u' : Value} {t : TypeId} (h : W.heap[b]? = some (.cells #[u] t (0, 0))) : (W.setCell ⟨b, 0, none⟩ u').heap[b]? = some (.cells #[u'] t (0, 0)) := by
  simp [World.setCell, Array.getElem?_modify, h]
theorem keep_set {n₀ : Nat} {W : World} {b : Nat} {cs : Array Value} {t : TypeId} {u : Value} (h : W.heap[b]? = some (.cells cs t (0, 0))) (hn : n₀ ≤ b) (h1 : t ≠ 63) (h2 : t ≠ 59) (i : Nat) : Keep n₀ W (W.setCell ⟨b, i, none⟩ u) :=
  (Keep.refl n₀ W).grown (by have := (Array.getElem?_eq_some_iff.1 h).1; omega) (grown_set W b i u) (fun r e => by cases e; exact ⟨hn, _, h, not_shut h1 h2⟩)

/-- THE LOOP's RULE. I B pre: what the body's own cells hold when the cycles pre have come; what it has collected lies below block B. -/
theorem range_cycles {g : Operand} {pt : Tmp} {assign body : Code} {Q : Exit → Act → World → Prop} {a : Act} {w : World} {Bn n₀ : Nat} {xs : List (List Int)}
    (hro : F.round = none) (h1 : 1 ≤ n) (hg : a.eval g = .func (.func 107) #[] #[.pointer (some ⟨Bn, 0, none⟩)]) (hF : F.fn 107)
    (eg : ∀ args w, (callFunc 107 args).run Try.prog w = .ok (.enter 107 args) w)
    (hit : Gives F (n - 1) Bn n₀ w.heap.size xs w) (hn₀ : n₀ ≤ w.heap.size)
    (I : Nat → List (List Int) → World → Prop) (hIm : ∀ B B' pre W, I B pre W → B ≤ B' → I B' pre W) (hI : ∀ B pre A A', I B pre A → w.heap.size ≤ A.heap.size → Goes w.heap.size A A' → I B pre A')
    (hI' : ∀ B pre (W : World) (l : Nat) (o o' : Obj), I B pre W → w.heap.size ≤ l → W.heap[l]? = some o → o.isCells = false → I B pre (W.putObj l o')) (h0 : I w.heap.size [] w) (a₁ : Value → Act)
    (hassign : ∀ (l : Nat) (v : Value) (W : World) (K : Act → World → Prop), K (a₁ v) W →
      assign.wpIn (F.inRound l) (n - 1 - 1) Try.prog (Exit.then K (fun _ _ _ => False)) { tmps := a.tmps.setIfInBounds pt v, defers := [] } W)
    (hbody : ∀ (l B : Nat) (pre : List (List Int)) (x : List Int) (v : Value) (W : World), I B pre W → w.heap.size ≤ B → B ≤ W.heap.size → Own W B v x → pre ++ [x] <+: xs →
      body.wpIn (F.inRound l) (n - 1 - 1) Try.prog (roundEnd n₀ (fun ys W' => I W'.heap.size ys W') (pre ++ [x]) W) (a₁ v) W)
    (hdone : ∀ (W : World), I W.heap.size xs W → W.heap[w.heap.size]? = some (.deferred (some [])) → Q .normal { a with defers := { target := .collected w.heap.size, args := #[] } :: a.defers } W) :
    (Code.rangeFunc g #[pt] assign body).wpIn F n Try.prog Q a w := by
  refine wpIn_rangeFunc ?_
  intro fn hfn
  rw [hro]
  obtain ⟨rec, hrec⟩ : ∃ rec : LoopState → Option Code → Loop, rec = fun st pe => { state := st, pending := pe, fn, tmps := a.tmps, params := #[pt], assign, body, defers := w.heap.size } := ⟨_, rfl⟩
  obtain ⟨W1, hW1⟩ : ∃ W1, (w.alloc (.deferred (some []))).alloc (.loop (rec .ready none)) = W1 := ⟨_, rfl⟩
  have hL1 : W1.heap[w.heap.size + 1]? = some (.loop (rec .ready none)) := by
    rw [← hW1]; have := World.alloc_heap_new (w.alloc (.deferred (some []))) (.loop (rec .ready none)); rwa [World.size_alloc] at this
  have hK1 : W1.heap[w.heap.size]? = some (.deferred (some [])) := by
    rw [← hW1]; exact (Below.heap_alloc _ _ _ (by simp)).trans (World.alloc_heap_new w _)
  have hb1 : Below w.heap.size w W1 := by rw [← hW1]; exact ((Below.refl _ w).alloc (Nat.le_refl _) _).alloc (by simp) _
  have hI1 : I W1.heap.size [] W1 := hIm _ _ _ _ (hI _ _ _ _ h0 (Nat.le_refl _) (Goes.of_below hb1)) hb1.size
  -- a block that is no cells lies on over the iterator's steps
  have lies : ∀ {A B : World} {k : Nat} {o : Obj}, A.heap[k]? = some o → o.isCells = false → Goes w.heap.size A B → B.heap[k]? = some o := fun {A B k o} h hc hgo =>
    (hgo.block k (Array.getElem?_eq_some_iff.1 h).1 (.inr fun cs e => by rw [h] at e; injection e with e; subst e; simp [Obj.isCells] at hc)).trans h
  refine ⟨w.heap.size + 1, [{ target := .collected w.heap.size, args := #[] }], W1, { target := .fn (.func 107) #[.pointer (some ⟨Bn, 0, none⟩)], args := #[.func (.yield (w.heap.size + 1)) #[] #[]] }, W1, 107,
    #[.func (.yield (w.heap.size + 1)) #[] #[]] ++ #[.pointer (some ⟨Bn, 0, none⟩)], W1, ?_, ?_, ?_, ?_, fun _ => h1, ?_⟩
  · rw [← hW1, hrec]; exact run_enterLoop_outer _ _ _ _ _
  · simp only [resolve, hg]
    simp [go_sem]
  · intro f' hf'; simp [Target.leads] at hf'; subst hf'; exact hF
  · simp [invoke, go_sem, eg]
  · refine (hit (w.heap.size + 1)
      (fun pre W => I W.heap.size pre W ∧ w.heap.size ≤ W.heap.size ∧ W.heap[w.heap.size + 1]? = some (.loop (rec .ready none)) ∧ W.heap[w.heap.size]? = some (.deferred (some [])))
      W1 hb1
      (fun pre A B ⟨hi, hz, hl, hk⟩ hgo => ⟨hIm _ _ _ _ (hI _ _ _ _ hi hz hgo) hgo.size, Nat.le_trans hz hgo.size, lies hl rfl hgo, lies hk rfl hgo⟩)
      ?_ ⟨hI1, hb1.size, hL1, hK1⟩).mono ?_
    · rintro pre x v Wp W ⟨hip, hzp, hlp, hkp⟩ hgo _ hv hpre
      have hi := hI _ _ _ _ hip hzp hgo
      have hz := Nat.le_trans hzp hgo.size
      have hl := lies hlp rfl hgo
      have hk := lies hkp rfl hgo
      have hlt : w.heap.size + 1 < W.heap.size := (Array.getElem?_eq_some_iff.1 hl).1
      have hy := run_yield (P := Try.prog) (args := #[v]) hl (by rw [hrec]; rfl)
      rw [hrec] at hy
      obtain ⟨W2, hW2⟩ : ∃ W2, W.putObj (w.heap.size + 1) (.loop { rec .ready none with state := .busy }) = W2 := ⟨_, rfl⟩
      have hl2 : W2.heap[w.heap.size + 1]? = some (.loop { rec .ready none with state := .busy }) := by rw [← hW2]; exact World.putObj_heap_same hlt
      have hk2 : W2.heap[w.heap.size]? = some (.deferred (some [])) := by rw [← hW2]; exact (World.putObj_heap_other (by omega)).trans hk
      have hv2 : Own W2 Wp.heap.size v x := by
        rw [← hW2]
        refine hv.grown (grownBy_putObj' W _ _) ?_
        rcases hv.2 with ⟨rfl, _⟩ | ⟨g', cap', cur', rfl, _, hh', _⟩
        · exact .inl rfl
        · refine .inr fun e => ?_
          have e' : g' = w.heap.size + 1 := by simpa [Value.ownBlock] using e
          subst e'
          rw [hl] at hh'
          cases hh'
      refine ⟨fn, _, assign, body, hy, roundIn_of_wpIn hfn ?_⟩
      have ha := hassign (w.heap.size + 1) v W (fun a₁ w₁ => ∃ w₂, (Instr.beginRound (w.heap.size + 1)).run Try.prog w₁ = .ok () w₂ ∧
        body.wpIn (F.inRound (w.heap.size + 1)) (n - 1 - 1) Try.prog (roundPost Try.prog (w.heap.size + 1) (fun e W' => e = .returned (.bool true) ∧
          (I W'.heap.size (pre ++ [x]) W' ∧ w.heap.size ≤ W'.heap.size ∧ W'.heap[w.heap.size + 1]? = some (.loop (rec .ready none)) ∧ W'.heap[w.heap.size]? = some (.deferred (some []))) ∧ Keep n₀ W W')) a₁ w₂) ?_
      · have ez : ((#[pt] : Array Tmp).zip #[v]).foldl (fun tmps (t, a) => tmps.setIfInBounds t a) a.tmps = a.tmps.setIfInBounds pt v := by simp
        rw [← ez] at ha
        exact ha
      refine ⟨W2, by rw [← hW2]; exact run_beginRound hl (by rw [hrec]), ?_⟩
      refine wpIn_mono (hbody _ Wp.heap.size pre x v W2 (by rw [← hW2]; exact hI' _ _ _ _ _ _ hi (by omega) hl rfl) hzp (by rw [← hW2]; simpa using hgo.size) hv2 hpre) ?_
      rintro e a3 W3 hp
      cases e with
      | normal =>
        obtain ⟨hk3, hi3⟩ := hp
        have hl3 := hk3.kept _ _ hl2 (.inl rfl)
        have hkk3 := hk3.kept _ _ hk2 (.inl rfl)
        have hr := run_endRound (P := Try.prog) none hl3
        refine ⟨_, _, hr, rfl, ⟨by rw [World.putObj_size]; exact hI' _ _ _ _ _ _ hi3 (by omega) hl3 rfl, ?_, ?_, (World.putObj_heap_other (by omega)).trans hkk3⟩, ?_⟩
        · have := hk3.below.size; rw [← hW2] at this; simp at this ⊢; omega
        · rw [World.putObj_heap_same (Array.getElem?_eq_some_iff.1 hl3).1]; rw [hrec]; rfl
        · have hb2 : Below n₀ W W2 := by rw [← hW2]; exact keep_put hl (by omega)
          refine ⟨(hb2.trans hk3.below).trans (keep_put hl3 (by omega)), fun k o hko ho => ?_⟩
          by_cases e : k = w.heap.size + 1
          · subst e
            rw [hl] at hko
            injection hko with hko
            subst hko
            rw [World.putObj_heap_same (Array.getElem?_eq_some_iff.1 hl3).1]; rw [hrec]; rfl
          · rw [World.putObj_heap_other e]
            refine hk3.kept k o ?_ ho
            rw [← hW2, World.putObj_heap_other e]; exact hko
      | ret => exact hp.elim
      | exit id => exact hp.elim
      | goto t => exact hp.elim
      | panic ch => exact hp.elim
      | outgrown => exact hp.elim
    · rintro e W2 ⟨⟨v, rfl⟩, hi, hz, hl, hk⟩
      exact ⟨none, _, by have := run_endLoop (P := Try.prog) hl (by rw [hrec]; simp); rw [hrec] at this; exact this, hdone _ (by rw [World.putObj_size]; exact hI' _ _ _ _ _ _ hi (by omega) hl rfl) ((World.putObj_heap_other (by omega)).trans hk)⟩

end Go.Proofs.Ytjpebcomecoheaa
