/-
  A loop over the cycles of a permutation: what the loop's body keeps for the iterator, what the iterator keeps for the loop, and the loop's rule.
  The program's iterator over the cycles of a permutation keeps its word; the function that makes it; the library's Collect.
-/
import Derived.Test.YtcenffndclpjoaaSeen
import Derived.RangeFuncNested
import Derived.RangeFuncBound
import Derived.RangeFuncCalls
import Derived.RangeFuncLeaves
import Derived.RangeFuncBox
import Derived.Shelf.Abstract
import Derived.Shelf.RegionOpen
import Derived.OwnWalkIn
import Derived.TacticsInMore
import Derived.LoopNIn
import Derived.LoopIn
namespace Go.Proofs.Ytcenffndclpjoaa
open Go.RowKit Go.Shelf

/-- The types whose blocks a body leaves alone: the iterator's marks, and the variable that holds the permutation. -/
def Shut (o : Obj) : Prop := o.isCells = false ∨ ∃ cs, o = .cells cs 100 (0, 0) ∨ o = .cells cs 64 (0, 0)

/-- What one round of the body keeps. -/
structure Keep (n₀ : Nat) (W W' : World) : Prop where
  below : Below n₀ W W'
  kept : ∀ (k : Nat) (o : Obj), W.heap[k]? = some o → Shut o → W'.heap[k]? = some o

theorem Keep.refl (n₀ : Nat) (W : World) : Keep n₀ W W := ⟨Below.refl _ _, fun _ _ h _ => h⟩
theorem Keep.trans {n₀ : Nat} {A B C : World} (h : Keep n₀ A B) (k : Keep n₀ B C) : Keep n₀ A C := ⟨h.below.trans k.below, fun i o hi ho => k.kept i o (h.kept i o hi ho) ho⟩
theorem Keep.alloc {n₀ : Nat} {A B : World} (h : Keep n₀ A B) (hn : n₀ ≤ B.heap.size) (o : Obj) : Keep n₀ A (B.alloc o) :=
  ⟨h.below.alloc hn o, fun i q hi hq => by
    have h1 := h.kept i q hi hq
    exact (Below.heap_alloc B o i (Array.getElem?_eq_some_iff.1 h1).1).trans h1⟩
theorem Keep.drewN {n₀ : Nat} {A B : World} (h : Keep n₀ A B) (n : Nat) : Keep n₀ A (B.drewN n) := ⟨below_drewN h.below n, h.kept⟩
theorem Keep.grown {n₀ : Nat} {A B C : World} {row : Option Nat} (h : Keep n₀ A B) (hn : n₀ ≤ B.heap.size) (hg : B.grownBy C row)
    (hr : ∀ r, row = some r → n₀ ≤ r ∧ ∃ o : Obj, B.heap[r]? = some o ∧ ¬ Shut o) : Keep n₀ A C :=
  ⟨h.below.grown hg hn (fun k hk => (hr k hk).1), fun i o hi ho => by
    have h1 := h.kept i o hi ho
    refine (hg.block i (Array.getElem?_eq_some_iff.1 h1).1 (fun e => ?_)).trans h1
    obtain ⟨_, o', h2, h3⟩ := hr i e.symm
    rw [h1] at h2
    injection h2 with h2
    subst h2
    exact h3 ho⟩
theorem not_shut {cs : Array Value} {t : TypeId} {fr : Nat × Nat} (h1 : t ≠ 100) (h2 : t ≠ 64) : ¬ Shut (.cells cs t fr) := by
  rintro (h | ⟨cs', h | h⟩)
  · simp [Obj.isCells] at h
  · injection h with _ h; exact h1 h
  · injection h with _ h; exact h2 h

/-- What the iterator keeps between two rounds: all but its own marks, which lie from block L on. -/
structure Goes (L : Nat) (W W' : World) : Prop where
  os : W'.os = W.os
  tape : W'.tape = W.tape
  output : W'.output = W.output
  size : W.heap.size ≤ W'.heap.size
  block : ∀ k : Nat, k < W.heap.size → (k < L ∨ ∀ cs, W.heap[k]? ≠ some (.cells cs 100 (0, 0))) → W'.heap[k]? = W.heap[k]?
theorem Goes.refl (L : Nat) (W : World) : Goes L W W := ⟨rfl, rfl, rfl, Nat.le_refl _, fun _ _ _ => rfl⟩
theorem Goes.of_below {L : Nat} {W W' : World} (h : Below W.heap.size W W') : Goes L W W' := ⟨h.os, h.tape, h.output, h.size, fun k hk _ => h.block k hk⟩
theorem Goes.below {L : Nat} {W W' : World} (h : Goes L W W') (hL : L ≤ W.heap.size) : Below L W W' := ⟨h.os, h.tape, h.output, h.size, fun k hk => h.block k (by omega) (.inl hk)⟩
theorem Goes.of_marks {L : Nat} {W W' : World} {b N : Nat} {vis : List Nat} (hg : W.grownBy W' (some b)) (hs : SeenT W b 100 N vis) (hL : L ≤ b) : Goes L W W' :=
  ⟨hg.os, hg.tape, hg.output, hg.size, fun k hk hc => hg.block k hk (fun e => by
    injection e with e
    subst e
    rcases hc with hc | hc
    · omega
    · obtain ⟨cs, h, _⟩ := hs
      exact hc cs h)⟩

variable {F : Fence} {n : Nat}

/-- Where a slice that came in lies. -/
theorem Rd.kept {w w' : World} {A : Option Addr} {m n₀ : Nat} {xs : List Int} (h : Rd w A m xs) (hA : ∀ ad : Addr, A = some ad → 0 < m → ad.block < n₀) (hb : Below n₀ w w') : Rd w' A m xs :=
  ⟨h.1, fun hn => by
    obtain ⟨ad, e, hc⟩ := h.2 hn
    exact ⟨ad, e, fun j hj => (hb.cell (by rw [add_block]; exact hA ad e hn)).trans (hc j hj)⟩⟩

/-- The iterator's part: what it does for whoever gives it rounds. -/
def Gives (F : Fence) (n : Nat) (Bn n₀ L : Nat) (xs : List (List Int)) (W0 : World) : Prop :=
  ∀ (l : Nat) (J : List (List Int) → World → Prop) (W : World), Below W0.heap.size W0 W →
    (∀ pre A B, J pre A → Goes L A B → J pre B) →
    (∀ pre x v Wp W1, J pre Wp → Goes L Wp W1 → L ≤ Wp.heap.size → Own W1 Wp.heap.size v x → pre ++ [x] <+: xs → YieldAt F (n - 1) Try.prog l #[v] W1 fun e W' => e = .returned (.bool true) ∧ J (pre ++ [x]) W' ∧ Keep n₀ W1 W') →
    J [] W →
    CallsIn F n Try.prog 89 (#[.func (.yield l) #[] #[]] ++ #[.pointer (some ⟨Bn, 0, none⟩)]) W fun e W' => (∃ v, e = .returned v) ∧ J xs W'

def roundEnd (n₀ : Nat) (I : List (List Int) → World → Prop) (xs : List (List Int)) (W : World) : Exit → Act → World → Prop
  | .normal, _, W' => Keep n₀ W W' ∧ I xs W'
  | _, _, _ => False

theorem keep_put {n₀ : Nat} {W : World} {l : Nat} {r r' : Loop} (hl : W.heap[l]? = some (.loop r)) (hn : n₀ ≤ l) : Below n₀ W (W.putObj l (.loop r')) :=
  (Below.refl n₀ W).grown (grownBy_putObj' W l _) (by have := (Array.getElem?_eq_some_iff.1 hl).1; omega) (fun k e => by cases e; exact hn)

theorem Goes.box {L : Nat} {A B : World} {b : Nat} {cs : Array Value} {t : TypeId} (hgo : Goes L A B) (h : A.heap[b]? = some (.cells cs t (0, 0))) (ht : t ≠ 100) : B.heap[b]? = some (.cells cs t (0, 0)) :=
  (hgo.block b (Array.getElem?_eq_some_iff.1 h).1 (.inr fun cs' e => by rw [h] at e; injection e with e; injection e with _ e; exact ht e)).trans h
theorem put_box {W : World} {b l : Nat} {cs : Array Value} {t : TypeId} {fr : Nat × Nat} {o o' : Obj} (h : W.heap[b]? = some (.cells cs t fr)) (hl : W.heap[l]? = some o) (ho : o.isCells = false) : (W.putObj l o').heap[b]? = some (.cells cs t fr) := by
  refine (World.putObj_heap_other (fun e => ?_)).trans h
  subst e
  rw [h] at hl
  injection hl with hl
  subst hl
  simp [Obj.isCells] at ho
theorem put_below {n₀ : Nat} {W : World} {l : Nat} (o' : Obj) (hn : n₀ ≤ l) (hz : n₀ ≤ W.heap.size) : Below n₀ W (W.putObj l o') :=
  (Below.refl n₀ W).grown (grownBy_putObj' W l o') hz (fun k e => by cases e; exact hn)
theorem set_box {W : World} {b : Nat} {u u' : Value} {t : TypeId} (h : W.heap[b]? = some (.cells #[u] t (0, 0))) : (W.setCell ⟨b, 0, none⟩ u').heap[b]? = some (.cells #[u'] t (0, 0)) := by
  simp [World.setCell, Array.getElem?_modify, h]
theorem keep_set {n₀ : Nat} {W : World} {b : Nat} {cs : Array Value} {t : TypeId} {u : Value} (h : W.heap[b]? = some (.cells cs t (0, 0))) (hn : n₀ ≤ b) (h1 : t ≠ 100) (h2 : t ≠ 64) (i : Nat) : Keep n₀ W (W.setCell ⟨b, i, none⟩ u) :=
  (Keep.refl n₀ W).grown (by have := (Array.getElem?_eq_some_iff.1 h).1; omega) (grown_set W b i u) (fun r e => by cases e; exact ⟨hn, _, h, not_shut h1 h2⟩)

/-- THE LOOP's RULE. I B pre: what the body's own cells hold when the cycles pre have come; what it has collected lies below block B. -/
theorem range_cycles {g : Operand} {pt : Tmp} {assign body : Code} {Q : Exit → Act → World → Prop} {a : Act} {w : World} {Bn n₀ : Nat} {xs : List (List Int)}
    (hro : F.round = none) (h1 : 1 ≤ n) (hg : a.eval g = .func (.func 89) #[] #[.pointer (some ⟨Bn, 0, none⟩)]) (hF : F.fn 89)
    (eg : ∀ args w, (callFunc 89 args).run Try.prog w = .ok (.enter 89 args) w)
    (hit : Gives F (n - 1) Bn n₀ w.heap.size xs w) (hn₀ : n₀ ≤ w.heap.size)
    (I : Nat → List (List Int) → World → Prop) (hIm : ∀ B B' pre W, I B pre W → B ≤ B' → I B' pre W) (hI : ∀ B pre A A', I B pre A → w.heap.size ≤ A.heap.size → Goes w.heap.size A A' → I B pre A')
    (hI' : ∀ B pre (W : World) (l : Nat) (o o' : Obj), I B pre W → w.heap.size ≤ l → W.heap[l]? = some o → o.isCells = false → I B pre (W.putObj l o')) (h0 : I w.heap.size [] w) (a₁ : Value → Act)
    (hassign : ∀ (l : Nat) (v : Value) (W : World) (K : Act → World → Prop), K (a₁ v) W →
      assign.wpIn (F.inRound l) (n - 1 - 1) Try.prog (Exit.then K (fun _ _ _ => False)) { tmps := a.tmps.setIfInBounds pt v, defers := [] } W)
    (hbody : ∀ (l B : Nat) (pre : List (List Int)) (x : List Int) (v : Value) (W : World), I B pre W → w.heap.size ≤ B → B ≤ W.heap.size → Own W B v x → pre ++ [x] <+: xs →
      body.wpIn (F.inRound l) (n - 1 - 1) Try.prog (roundEnd n₀ (fun ys W' => I W'.heap.size ys W') (pre ++ [x]) W) (a₁ v) W)
    (hdone : ∀ (W : World), I W.heap.size xs W → W.heap[w.heap.size]? = some (.deferred (some [])) → Q .normal { a with defers := { target := .collected w.heap.size, args := #[] } :: a.defers } W) :
    (Code.rangeFunc g #[pt] assign body).wpIn F n Try.prog Q a w := by
  refine wpIn_rangeFunc ?_
  intro fn hfn
  rw [hro]
  obtain ⟨rec, hrec⟩ : ∃ rec : LoopState → Option Code → Loop, rec = fun st pe => { state := st, pending := pe, fn, tmps := a.tmps, params := #[pt], assign, body, defers := w.heap.size } := ⟨_, rfl⟩
  obtain ⟨W1, hW1⟩ : ∃ W1, (w.alloc (.deferred (some []))).alloc (.loop (rec .ready none)) = W1 := ⟨_, rfl⟩
  have hL1 : W1.heap[w.heap.size + 1]? = some (.loop (rec .ready none)) := by
    rw [← hW1]; have := World.alloc_heap_new (w.alloc (.deferred (some []))) (.loop (rec .ready none)); rwa [World.size_alloc] at this
  have hK1 : W1.heap[w.heap.size]? = some (.deferred (some [])) := by
    rw [← hW1]; exact (Below.heap_alloc _ _ _ (by simp)).trans (World.alloc_heap_new w _)
  have hb1 : Below w.heap.size w W1 := by rw [← hW1]; exact ((Below.refl _ w).alloc (Nat.le_refl _) _).alloc (by simp) _
  have hI1 : I W1.heap.size [] W1 := hIm _ _ _ _ (hI _ _ _ _ h0 (Nat.le_refl _) (Goes.of_below hb1)) hb1.size
  -- a block that is no cells lies on over the iterator's steps
  have lies : ∀ {A B : World} {k : Nat} {o : Obj}, A.heap[k]? = some o → o.isCells = false → Goes w.heap.size A B → B.heap[k]? = some o := fun {A B k o} h hc hgo =>
    (hgo.block k (Array.getElem?_eq_some_iff.1 h).1 (.inr fun cs e => by rw [h] at e; injection e with e; subst e; simp [Obj.isCells] at hc)).trans h
  refine ⟨w.heap.size + 1, [{ target := .collected w.heap.size, args := #[] }], W1, { target := .fn (.func 89) #[.pointer (some ⟨Bn, 0, none⟩)], args := #[.func (.yield (w.heap.size + 1)) #[] #[]] }, W1, 89,
    #[.func (.yield (w.heap.size + 1)) #[] #[]] ++ #[.pointer (some ⟨Bn, 0, none⟩)], W1, ?_, ?_, ?_, ?_, fun _ => h1, ?_⟩
  · rw [← hW1, hrec]; exact run_enterLoop_outer _ _ _ _ _
  · simp only [resolve, hg]
    simp [go_sem]
  · intro f' hf'; simp [Target.leads] at hf'; subst hf'; exact hF
  · simp [invoke, go_sem, eg]
  · refine (hit (w.heap.size + 1)
      (fun pre W => I W.heap.size pre W ∧ w.heap.size ≤ W.heap.size ∧ W.heap[w.heap.size + 1]? = some (.loop (rec .ready none)) ∧ W.heap[w.heap.size]? = some (.deferred (some [])))
      W1 hb1
      (fun pre A B ⟨hi, hz, hl, hk⟩ hgo => ⟨hIm _ _ _ _ (hI _ _ _ _ hi hz hgo) hgo.size, Nat.le_trans hz hgo.size, lies hl rfl hgo, lies hk rfl hgo⟩)
      ?_ ⟨hI1, hb1.size, hL1, hK1⟩).mono ?_
    · rintro pre x v Wp W ⟨hip, hzp, hlp, hkp⟩ hgo _ hv hpre
      have hi := hI _ _ _ _ hip hzp hgo
      have hz := Nat.le_trans hzp hgo.size
      have hl := lies hlp rfl hgo
      have hk := lies hkp rfl hgo
      have hlt : w.heap.size + 1 < W.heap.size := (Array.getElem?_eq_some_iff.1 hl).1
      have hy := run_yield (P := Try.prog) (args := #[v]) hl (by rw [hrec]; rfl)
      rw [hrec] at hy
      obtain ⟨W2, hW2⟩ : ∃ W2, W.putObj (w.heap.size + 1) (.loop { rec .ready none with state := .busy }) = W2 := ⟨_, rfl⟩
      have hl2 : W2.heap[w.heap.size + 1]? = some (.loop { rec .ready none with state := .busy }) := by rw [← hW2]; exact World.putObj_heap_same hlt
      have hk2 : W2.heap[w.heap.size]? = some (.deferred (some [])) := by rw [← hW2]; exact (World.putObj_heap_other (by omega)).trans hk
      have hv2 : Own W2 Wp.heap.size v x := by
        rw [← hW2]
        refine hv.grown (grownBy_putObj' W _ _) ?_
        rcases hv.2 with ⟨rfl, _⟩ | ⟨g', cap', cur', rfl, _, hh', _⟩
        · exact .inl rfl
        · refine .inr fun e => ?_
          have e' : g' = w.heap.size + 1 := by simpa [Value.ownBlock] using e
          subst e'
          rw [hl] at hh'
          cases hh'
      refine ⟨fn, _, assign, body, hy, roundIn_of_wpIn hfn ?_⟩
      have ha := hassign (w.heap.size + 1) v W (fun a₁ w₁ => ∃ w₂, (Instr.beginRound (w.heap.size + 1)).run Try.prog w₁ = .ok () w₂ ∧
        body.wpIn (F.inRound (w.heap.size + 1)) (n - 1 - 1) Try.prog (roundPost Try.prog (w.heap.size + 1) (fun e W' => e = .returned (.bool true) ∧
          (I W'.heap.size (pre ++ [x]) W' ∧ w.heap.size ≤ W'.heap.size ∧ W'.heap[w.heap.size + 1]? = some (.loop (rec .ready none)) ∧ W'.heap[w.heap.size]? = some (.deferred (some []))) ∧ Keep n₀ W W')) a₁ w₂) ?_
      · have ez : ((#[pt] : Array Tmp).zip #[v]).foldl (fun tmps (t, a) => tmps.setIfInBounds t a) a.tmps = a.tmps.setIfInBounds pt v := by simp
        rw [← ez] at ha
        exact ha
      refine ⟨W2, by rw [← hW2]; exact run_beginRound hl (by rw [hrec]), ?_⟩
      refine wpIn_mono (hbody _ Wp.heap.size pre x v W2 (by rw [← hW2]; exact hI' _ _ _ _ _ _ hi (by omega) hl rfl) hzp (by rw [← hW2]; simpa using hgo.size) hv2 hpre) ?_
      rintro e a3 W3 hp
      cases e with
      | normal =>
        obtain ⟨hk3, hi3⟩ := hp
        have hl3 := hk3.kept _ _ hl2 (.inl rfl)
        have hkk3 := hk3.kept _ _ hk2 (.inl rfl)
        have hr := run_endRound (P := Try.prog) none hl3
        refine ⟨_, _, hr, rfl, ⟨by rw [World.putObj_size]; exact hI' _ _ _ _ _ _ hi3 (by omega) hl3 rfl, ?_, ?_, (World.putObj_heap_other (by omega)).trans hkk3⟩, ?_⟩
        · have := hk3.below.size; rw [← hW2] at this; simp at this ⊢; omega
        · rw [World.putObj_heap_same (Array.getElem?_eq_some_iff.1 hl3).1]; rw [hrec]; rfl
        · have hb2 : Below n₀ W W2 := by rw [← hW2]; exact keep_put hl (by omega)
          refine ⟨(hb2.trans hk3.below).trans (keep_put hl3 (by omega)), fun k o hko ho => ?_⟩
          by_cases e : k = w.heap.size + 1
          · subst e
            rw [hl] at hko
            injection hko with hko
            subst hko
            rw [World.putObj_heap_same (Array.getElem?_eq_some_iff.1 hl3).1]; rw [hrec]; rfl
          · rw [World.putObj_heap_other e]
            refine hk3.kept k o ?_ ho
            rw [← hW2, World.putObj_heap_other e]; exact hko
      | ret => exact hp.elim
      | exit id => exact hp.elim
      | goto t => exact hp.elim
      | panic ch => exact hp.elim
      | outgrown => exact hp.elim
    · rintro e W2 ⟨⟨v, rfl⟩, hi, hz, hl, hk⟩
      exact ⟨none, _, by have := run_endLoop (P := Try.prog) hl (by rw [hrec]; simp); rw [hrec] at this; exact this, hdone _ (by rw [World.putObj_size]; exact hI' _ _ _ _ _ _ hi (by omega) hl rfl) ((World.putObj_heap_other (by omega)).trans hk)⟩

end Go.Proofs.Ytcenffndclpjoaa

namespace Go.Proofs.Ytcenffndclpjoaa
open Go.RowKit Go.Shelf
attribute [local go_sem] Oper.semAt_some
variable {F : Fence} {n : Nat}

theorem seen12 (w : World) : SeenT (w.alloc (.cells #[.bool false, .bool false, .bool false, .bool false, .bool false, .bool false, .bool false, .bool false, .bool false, .bool false, .bool false, .bool false] 100)) w.heap.size 100 12 [] := by
  refine ⟨_, heap_alloc_new w _, rfl, fun j hj => ?_⟩
  match j, hj with
  | 0, _ => rfl
  | 1, _ => rfl
  | 2, _ => rfl
  | 3, _ => rfl
  | 4, _ => rfl
  | 5, _ => rfl
  | 6, _ => rfl
  | 7, _ => rfl
  | 8, _ => rfl
  | 9, _ => rfl
  | 10, _ => rfl
  | 11, _ => rfl
  | _ + 12, h => exact absurd h (by omega)

theorem cell_of_block {w : World} {b : Nat} {u : Value} {t : TypeId} (h : w.heap[b]? = some (.cells #[u] t (0, 0))) : w.cell? ⟨b, 0, none⟩ = some u := by
  rw [cell_of_row w b 0 #[u] t (0, 0) h]; rfl

set_option maxRecDepth 100000 in
set_option maxHeartbeats 2000000 in
theorem cycles1_in (hF : F.fn 89) (hro : F.round = none) (hn : 1 ≤ n) (Bn n₀ L : Nat) (A : Option Addr) (m c : Nat) (p : List Int) (W0 : World)
    (hBn : W0.heap[Bn]? = some (.cells #[.slice A m c] 64 (0, 0))) (hR : Rd W0 A m p) (hA : ∀ ad : Addr, A = some ad → 0 < m → ad.block < n₀) (hp : Vld p) (hn₀ : n₀ ≤ W0.heap.size) (hL : L ≤ W0.heap.size) : Gives F n Bn n₀ L (cyclesL p) W0 := by
  intro l J W hW hJ hY h0
  obtain ⟨i0, hinf, hz0, hz1, hz2⟩ := info_parts info_int
  have hpm := hR.1
  have h12 : m ≤ 12 := by rw [← hpm]; exact hp.2.1
  have HV := Lib.hid hp; have Hm := Lib.hid hpm; have HA := Lib.hid hA
  have HR := Lib.hid (hR.below hW); have HBn : Hid (W.heap[Bn]? = some (.cells #[.slice A m c] 64 (0, 0))) := (hW.block Bn (Array.getElem?_eq_some_iff.1 hBn).1).trans hBn
  have hnW : n₀ ≤ W.heap.size := Nat.le_trans hn₀ hW.size
  have hLW : L ≤ W.heap.size := Nat.le_trans hL hW.size
  have HJ := Lib.hid hJ; have HY := Lib.hid hY; have H0 := Lib.hid h0
  clear hp hpm hA hR hBn hW hJ hY h0 hn₀ hL
  have hcb : (W.alloc (.cells #[.bool false, .bool false, .bool false, .bool false, .bool false, .bool false, .bool false, .bool false, .bool false, .bool false, .bool false, .bool false] 100)).cell? ⟨Bn, 0, none⟩ = some (.slice A m c) := by
    rw [World.cell?_alloc_lt _ _ _ (by exact (Array.getElem?_eq_some_iff.1 HBn.out).1)]; exact cell_of_block HBn.out
  refine callsIn_of_wp Try.func89 rfl hF ?_ hro
  simp only [Try.ntmps89, List.size_toArray, List.length_cons, List.length_nil, Nat.reduceAdd, Nat.reduceSub, Array.replicate_succ, Array.replicate_zero, List.push_toArray, List.append_toArray, List.nil_append, List.cons_append]
  gi_wp2
  gi_loopw [9] (fun iv wr' => ∃ (wr : World) (i : Nat) (outs : List (List Int)) (vis : List Nat), wr = wr' ∧ iv = .int .i64 i ∧ i ≤ m ∧ Hid (Outer p m outs vis i) ∧ Hid (J outs wr) ∧ Hid (SeenT wr W.heap.size 100 12 vis) ∧ Hid (Below n₀ W wr) ∧ Hid (wr.heap[Bn]? = some (.cells #[.slice A m c] 64 (0, 0)))) (fun iv _ => m - (intOf iv).toNat)
  case atStart =>
    have hb := (Below.refl W.heap.size W).alloc (Nat.le_refl _) (.cells #[.bool false, .bool false, .bool false, .bool false, .bool false, .bool false, .bool false, .bool false, .bool false, .bool false, .bool false, .bool false] 100)
    exact ⟨_, 0, [], [], rfl, rfl, Nat.zero_le _, Outer.start Hm.out, HJ.out _ _ _ H0.out (Goes.of_below hb), seen12 W, hb.mono hnW, (hb.block Bn (Array.getElem?_eq_some_iff.1 HBn.out).1).trans HBn.out⟩
  case round =>
    obtain ⟨wr, i, outs, vis, rfl, rfl, hin, ho, hj, hse, hbe, hbn⟩ := hrel
    clear hcb
    by_cases hlt : i < m
    · have hcs := hse.out.cell (j := i) (by omega)
      by_cases hvi : i ∈ vis
      · rw [decide_eq_true hvi] at hcs
        gi_wp2
        go_roundw
        case rel => exact ⟨_, i + 1, outs, vis, rfl, by go_num, by omega, ho.out.skip hlt hvi, hj, hse, hbe, hbn⟩
        case measure => simp [intOf]; omega
      · rw [decide_eq_false hvi] at hcs
        have hsw : W.heap.size < wr.heap.size := hse.out.lt
        gi_wp2
        gi_loopw [5, 6] (fun cv' kv wx' => ∃ (wx : World) (cv : Value) (k : Nat) (acc : List Int) (vis' : List Nat), wx = wx' ∧ cv = cv' ∧ kv = .int .i64 k ∧ k < m ∧ acc.length ≤ 12 ∧ Hid (Inner p m vis i acc vis' k) ∧ Hid (wx.ownsRow wr.heap.size 3 1 cv acc.length (ints acc)) ∧ Hid (SeenT wx W.heap.size 100 12 vis') ∧ Hid (wr.grownBy wx (some W.heap.size))) (fun _ _ wx => todo wx W.heap.size 100 12)
        case atStart => exact ⟨_, _, i, [], vis, rfl, rfl, rfl, hlt, by simp, Inner.start ho.out.nodup ho.out.lt hlt, World.ownsRow_nil _ _ _ _, hse, World.grownBy.refl _ _⟩
        case round =>
          obtain ⟨wx, cv, k, acc, vis', rfl, rfl, rfl, hk, hacc, hinn, howc, hsx, hgx⟩ := hrel
          have hwx : wr.heap.size ≤ wx.heap.size := hgx.out.size
          have hk12 : k < 12 := by omega
          have hck := hsx.out.cell hk12
          have hfk := hsx.out.frozen k
          have HBX : Hid (Below n₀ W wx) := hbe.out.grown hgx.out (by omega) (fun q hq => by cases hq; omega)
          have HBNX : Hid (wx.heap[Bn]? = some (.cells #[.slice A m c] 64 (0, 0))) := (hgx.out.block Bn (Array.getElem?_eq_some_iff.1 hbn.out).1 (fun e => by
            injection e with e
            subst e
            obtain ⟨cs, h, _⟩ := hse.out
            have h2 := hbn.out
            rw [h] at h2
            injection h2 with h2
            injection h2 with _ h2
            exact absurd h2 (by decide))).trans hbn.out
          by_cases hvk : k ∈ vis'
          · rw [decide_eq_true hvk] at hck
            have ht := ho.out.take hlt h12 hvi hinn.out hvk
            have hcvo : Own wx wr.heap.size cv acc := howc.out
            obtain ⟨fn, tmps, assign, body, hy, hRd⟩ := HY.out outs acc cv wr wx hj.out (Goes.of_marks hgx.out hse.out hLW) (by omega) hcvo ⟨_, ht.eq.symm⟩
            have HT := Lib.hid ht; clear ht hcvo
            gi_wp2
            refine hRd.mono ?_
            rintro e W3 ⟨rfl, hJ3, hk3⟩
            have HJ3 := Lib.hid hJ3; have HK3 := Lib.hid hk3; clear hJ3 hk3 hRd hy
            gi_wp2
            go_roundw
            case rel =>
              refine ⟨W3, i + 1, outs ++ [acc], vis', rfl, by go_num, by omega, HT.out, HJ3.out, ?_, HBX.out.trans HK3.out.below, HK3.out.kept _ _ HBNX.out (.inr ⟨_, .inr rfl⟩)⟩
              obtain ⟨cs, h, r⟩ := hsx.out
              exact ⟨cs, HK3.out.kept _ _ h (.inr ⟨_, .inl rfl⟩), r⟩
            case measure => simp [intOf]; omega
          · rw [decide_eq_false hvk] at hck
            have HST := Lib.hid (hinn.out.step HV.out Hm.out hvk)
            obtain ⟨ad, hAe, hpc⟩ := (HR.out.kept HA.out HBX.out).at_ hk
            have hadb := HA.out ad hAe (by omega)
            subst hAe
            have HOW : Hid ((wx.setCell ⟨W.heap.size, k, none⟩ (.bool true)).ownsRow wr.heap.size 3 1 cv acc.length (ints acc)) := howc.out.kept (grown_set _ _ _ _) (.inr (own_ne_seen howc.out hsx.out (by decide)))
            have hxg := HV.out.gi_gn (j := k) (by rw [Hm.out]; exact hk)
            rw [hxg] at hpc
            have HPC := Lib.hid hpc; have HXG := Lib.hid hxg; clear hpc hxg
            have hbnl : Bn < wx.heap.size := (Array.getElem?_eq_some_iff.1 HBNX.out).1
            have hbne : Bn ≠ W.heap.size := by
              intro e
              subst e
              obtain ⟨cs, h, _⟩ := hsx.out
              have h2 := HBNX.out
              rw [h] at h2
              injection h2 with h2
              injection h2 with _ h2
              exact absurd h2 (by decide)
            have hbnr : Bn < wr.heap.size := (Array.getElem?_eq_some_iff.1 hbn.out).1
            gi_wp2_with (gi_at_builtin; refine wpListIn_append_own _ rfl (.tmp 26) (.tmp 28) 23 rfl wr.heap.size 3 i0 (.int .i64 0) 1 8 Try.underlying23 hinf hz0 hz1 hz2 rfl (by decide) _ _ _ rfl (HOW.out.alloc _) ⟨wx.heap.size, 0, none⟩ 1 1 [.int .i64 (k : Int)] rfl rfl (cell_one_set _ _ _ _ _) (by intro u hu; simp at hu; subst hu; rfl) (by unfold maxLen; omega) (by omega) (by simp [World.setCell]; omega) ?_; intro v3 w3 hown3 hgrow3 _; have HO3 := Lib.hid hown3; have HG3 := Lib.hid hgrow3; clear hown3 hgrow3; have HROW : Hid (∀ q, Value.ownBlock cv = some q → wr.heap.size ≤ q) := fun q hq => (HOW.out.lt q hq).1; have HBX3 : Hid (Below n₀ wx w3) := (((Below.refl n₀ wx).setCell (p := ⟨W.heap.size, k, none⟩) hnW (.bool true)).alloc (by simp [World.setCell]; omega) (.cells #[.int .i64 (k : Int)] 3)).grown HG3.out (by simp [World.setCell]; omega) (fun q hq => by have := HROW.out q hq; omega); have hpc3 := (HBX3.out.cell (p := ad.add k) (by rw [add_block]; exact hadb)).trans HPC.out; have HBN3 := Lib.hid ((HG3.out.block Bn (by simp [World.setCell]; omega) (fun e => by have := HROW.out Bn e.symm; omega)).trans ((Below.heap_alloc _ _ Bn (by simp [World.setCell]; omega)).trans ((Below.heap_setCell wx ⟨W.heap.size, k, none⟩ (.bool true) Bn hbne).trans HBNX.out))); have hcb3 := cell_of_block HBN3.out)
            go_roundw
            case rel =>
              have HGR : Hid (wr.grownBy w3 (some W.heap.size)) := grown_later (grown_later (grownBy_trans hgx.out (grown_set wx _ k (.bool true))) (World.grownBy_alloc _ (.cells #[.int .i64 (k : Int)] 3) none) (fun i hi => by cases hi)) HG3.out HROW.out
              refine ⟨_, _, gn p k, acc ++ [(k : Int)], k :: vis', rfl, rfl, rfl, HST.out.klt, by have := HST.out.len; omega, HST.out, ?_, ?_, HGR.out⟩
              · have := HO3.out
                simpa [ints, Hid] using this
              · exact ((hsx.out.set k).alloc _).grown HG3.out (own_ne_seen HOW.out (hsx.out.set k) (by decide))
            case measure =>
              refine todo_step hsx.out hinn.out.nodup (fun j hj => Nat.lt_of_lt_of_le (hinn.out.lt j hj) h12) hk12 hvk ?_
              have hl : W.heap.size < (wx.setCell ⟨W.heap.size, k, none⟩ (.bool true)).heap.size := (hsx.out.set k).lt
              rw [HG3.out.block _ (by simp; simpa using Nat.lt_succ_of_lt hl) (fun e => own_ne_seen HOW.out (hsx.out.set k) (by decide) e.symm)]
              exact Below.heap_alloc _ _ _ hl
    · have hin' : i = m := by omega
      subst hin'
      gi_wp2
      go_end0
      exact ⟨⟨_, rfl⟩, by rw [ho.out.done]; exact hj.out⟩

end Go.Proofs.Ytcenffndclpjoaa
