/-
  Characters, the program's: hooks taken off beads, what was found kept in a map.
-/
import Derived.Test.YtkbdbkoeahihiaaPtB
import Derived.Maps.OwnSet
import Derived.Maps.OwnOps
import Derived.DeepKeys5
import Derived.Deep.QuietTactic
import Derived.Shelf.RegionOpenPlain
namespace Go.Proofs.Ytkbdbkoeahihiaa
open Go.RowKit Go.Maps
set_option linter.unusedVariables false

theorem beads_keyed : Keyed Try.prog 79 := int_keyed Try.underlying79
theorem wf_bead {b : Nat} (h : b < 128) : (Lit.int .u64 (b : Int)).wf = true := by
  simp [Lit.wf, IntKind.min, IntKind.max, IntKind.bits, IntKind.signed]; omega
theorem key_bead {b : Nat} (h : b < 128) : ∃ kl, keyOf Try.prog 79 (.int .u64 b) = some kl := by
  have hb := wf_bead h
  unfold keyOf
  rw [Try.underlying79]
  simp only [mapKey, Try.underlying79, hb]
  exact ⟨_, rfl⟩

/-- Block b is a map whose entries are beads, each with what F says. -/
def KeptB (F : Nat → Int) (w : World) (b : Nat) : Prop :=
  ∃ es clock, w.heap[b]? = some (.map es clock) ∧ WideElems.Fit Try.prog 79 (plainElem (H := Unit) Try.prog 3) es clock ∧
    ∀ x ∈ es.toList, ∃ k : Nat, k < 128 ∧ x.key = .int .u64 k ∧ x.val = .int .i64 (F k)
theorem nodupB_le : ∀ (n : Nat) (l : List Nat), l.Nodup → (∀ x ∈ l, x < n) → l.length ≤ n := nodup_len
theorem KeptB.lt {F : Nat → Int} {w : World} {b : Nat} (h : KeptB F w b) : b < w.heap.size := by
  obtain ⟨es, clock, hb, _⟩ := h
  exact (Array.getElem?_eq_some_iff.1 hb).1
theorem KeptB.grown {F : Nat → Int} {w w' : World} {b : Nat} {row : Option Nat} (h : KeptB F w b) (hg : w.grownBy w' row) (hne : some b ≠ row) : KeptB F w' b := by
  have hlt := h.lt
  obtain ⟨es, clock, hb, r⟩ := h
  exact ⟨es, clock, (hg.block b hlt hne).trans hb, r⟩
theorem KeptB.made (F : Nat → Int) (w : World) : KeptB F (w.alloc (.map #[] 0)) w.heap.size :=
  ⟨#[], 0, (MapKept.heap_alloc w _).1, ⟨by simp, MapKept.stamped_empty 0, by simp⟩, by simp⟩
theorem KeptB.drewN {F : Nat → Int} {w : World} {b : Nat} (h : KeptB F w b) (d : Nat) : KeptB F (w.drewN d) b := h
theorem grown_drewB {w w' : World} {row : Option Nat} (h : w.grownBy w' row) (d : Nat) : w.grownBy (w'.drewN d) row := ⟨h.os, h.tape, h.output, h.size, h.block⟩
def codeB (v : Value) : Nat := match v with
  | .int _ b => b.toNat
  | _ => 0
theorem keptB_room {F : Nat → Int} {es : Array MapEntry} {clock : Nat} (hs : MapKept.Stamped es clock) (h : ∀ x ∈ es.toList, ∃ k : Nat, k < 128 ∧ x.key = .int .u64 k ∧ x.val = .int .i64 (F k)) : es.size < maxLen := by
  have hk := ((MapKept.stamped_iff es clock).1 hs).2.2
  have h1 : (es.toList.map fun x => codeB x.key).Nodup := by
    rw [List.Nodup, List.pairwise_map]
    refine List.Pairwise.imp_of_mem ?_ hk
    intro a b ha hb hne e
    obtain ⟨e1, d1, k1, -⟩ := h a ha
    obtain ⟨e2, d2, k2, -⟩ := h b hb
    rw [k1, k2] at e
    simp only [codeB] at e
    have : e1 = e2 := by omega
    exact hne (by rw [k1, k2, this])
  have h2 := nodupB_le 128 _ h1 (by
    intro x hx
    obtain ⟨y, hy, rfl⟩ := List.mem_map.1 hx
    obtain ⟨e1, d1, k1, -⟩ := h y hy
    rw [k1]
    simp only [codeB]
    omega)
  simp at h2
  unfold maxLen
  omega
theorem zero_intB (w : World) : (zeroValue 3).run Try.prog w = .ok (.int .i64 0) w := by kernel_rfl

section
variable {F : Nat → Int}
theorem wpList_lookB {w : World} {ops : Array Oper} {rest : List Oper} {o : Oper} {a : Act} {Q : Exit → Act → World → Prop}
    (hg : o.guard = none) (m x : Operand) (hop : o.op = Op.lookup 82 m x true) (b : Nat) (hk : KeptB F w b) (k : Nat) (hd : k < 128)
    (hm : a.eval m = .map (some b)) (hx : a.eval x = .int .u64 k)
    (h1 : wpList Try.prog ops Q rest (a.put o.dst (.tuple #[.int .i64 (F k), .bool true])) w)
    (h0 : wpList Try.prog ops Q rest (a.put o.dst (.tuple #[.int .i64 0, .bool false])) w) :
    wpList Try.prog ops Q (o :: rest) a w := by
  refine wpList_plain hg fun K' hK' => ?_
  obtain ⟨es, clock, hb, fit, hall⟩ := hk
  obtain ⟨kl, hkey⟩ := key_bead hd
  unfold Oper.wp
  rcases Maps.fit_look (z := .int .i64 0) true beads_keyed Try.underlying82 (zero_intB w) hb fit hkey with ⟨hrun, _, _⟩ | ⟨e0, y, hmem, hek, hrun, _⟩
  · simp [execOp, hop, hm, hx, hrun, Result.andThen]
    exact hK' _ _ h0
  · obtain ⟨k', _, kk, vv⟩ := hall e0 hmem
    have e : k' = k := by have := kk.symm.trans hek; simp at this; omega
    subst e
    simp [execOp, hop, hm, hx, hrun, vv, Result.andThen]
    exact hK' _ _ h1
theorem wpList_keepB {w : World} {ops : Array Oper} {rest : List Oper} {o : Oper} {a : Act} {Q : Exit → Act → World → Prop}
    (hg : o.guard = none) (m x v : Operand) (hop : o.op = Op.mapUpdate 82 m x v) (b : Nat) (hk : KeptB F w b) (k : Nat) (hd : k < 128)
    (hm : a.eval m = .map (some b)) (hx : a.eval x = .int .u64 k) (r : Int) (hv : a.eval v = .int .i64 r) (hr : r = F k) (hwf : (Lit.int .i64 r).wf = true)
    (hK : ∀ w', KeptB F w' b → w.grownBy w' (some b) → wpList Try.prog ops Q rest (a.put o.dst undef) w') :
    wpList Try.prog ops Q (o :: rest) a w := by
  refine wpList_plain hg fun K' hK' => ?_
  obtain ⟨es, clock, hb, fit, hall⟩ := hk
  obtain ⟨kl, hkey⟩ := key_bead hd
  obtain ⟨es', clock', hrun, fit', _, _, _, hwho⟩ := Maps.fit_store (R' := plainElem (H := Unit) Try.prog 3) beads_keyed Try.underlying82 hb fit (keptB_room fit.stamped hall) (fun _ _ _ _ hz => hz) hkey (plainElem_int Try.underlying3 hwf)
  unfold Oper.wp
  simp [execOp, hop, hm, hx, hv, hrun, Result.andThen]
  refine hK' _ _ (hK _ ⟨es', clock', ChangeMaps.heap_setBlock_same hb _, fit', fun y hy => ?_⟩ ⟨rfl, rfl, rfl, by simp [ChangeMaps.setBlock], fun i _ hi => ChangeMaps.heap_setBlock_other hb _ (fun e => hi (by rw [e]))⟩)
  rcases hwho y hy with ⟨hm1, _⟩ | ⟨hk1, hv1⟩
  · exact hall y hm1
  · exact ⟨k, hd, hk1, by rw [hv1, hr]⟩
end

/-- A world in which only the map was written. -/
structure KW (F : Nat → Int) (w : World) (mb : Nat) (hk : KeptB F w mb) where
  to : World
  kept : KeptB F to mb
  g : w.grownBy to (some mb)
instance (F : Nat → Int) (w : World) (mb : Nat) (hk : KeptB F w mb) : Inhabited (KW F w mb hk) := ⟨⟨w, hk, World.grownBy.refl _ _⟩⟩
theorem wp_region_quiet_kept {P : Program} {id : Nat} {Q : Exit → Act → World → Prop} {a : Act} {F : Nat → Int} {mb : Nat} {w : World} {l : List Oper} (hk : KeptB F w mb) (hm : P.follows .mixedOrders = true) (hB : Region.lexB .any l.toArray = true)
    (h : wpQuiet P l.toArray (fun w' => ∃ p : KW F w mb hk, w' = p.to) (fun a' => ∀ w', (∃ p : KW F w mb hk, w' = p.to) → Q .normal a' w') l a) : (Code.region id l.toArray true).wp P Q a w :=
  wp_region_quiet (C := fun w' => ∃ p : KW F w mb hk, w' = p.to) hm hB ⟨⟨_, hk.drewN 1, grown_drewB (World.grownBy.refl _ _) 1⟩, rfl⟩ (by simpa using h)
theorem KW.same {P : Program} {f : FuncId} {args : Array Value} {F : Nat → Int} {w : World} {mb : Nat} {hk : KeptB F w mb} {p : KW F w mb hk} {v : Value}
    (h : Calls P f args p.to fun e w' => e = .returned v ∧ w' = p.to) : Calls P f args p.to fun e w'' => e = .returned v ∧ ∃ q : KW F w mb hk, w'' = q.to :=
  h.mono fun _ w'' ⟨he, hq⟩ => ⟨he, p, hq⟩
theorem KW.more {P : Program} {f : FuncId} {args : Array Value} {F : Nat → Int} {w : World} {mb : Nat} {hk : KeptB F w mb} {p : KW F w mb hk} {v : Value}
    (h : Calls P f args p.to fun e w' => e = .returned v ∧ KeptB F w' mb ∧ p.to.grownBy w' (some mb)) : Calls P f args p.to fun e w'' => e = .returned v ∧ ∃ q : KW F w mb hk, w'' = q.to :=
  h.mono fun _ w'' ⟨he, hk', hg⟩ => ⟨he, ⟨w'', hk', p.g.trans hg⟩, rfl⟩

/-- What the program takes off: from a bead to a free place. -/
def mvB (b lo hh : Nat) : Nat := b - 2 ^ hh + 2 ^ lo
def wsum (b : Nat) : Nat := (List.range 7).foldl (fun s i => s + if b.testBit i then i else 0) 0
def mvOk (b h m : Nat) : Bool := !(decide (h + m < 7) && decide (1 ≤ h) && hasBP b (h + m) && !hasBP b m) ||
  (decide (mvB b m (h + m) < 128) && decide (wsum (mvB b m (h + m)) + h = wsum b) && decide (bits BinOp.or IntKind.u64 (bits BinOp.andNot IntKind.u64 (b : Int) (IntKind.u64.wrap (2 ^ (h + m)))) (IntKind.u64.wrap (2 ^ m)) = (mvB b m (h + m) : Int)))
theorem mvOk_all : ∀ b : Nat, b < 128 → ∀ h : Nat, h < 7 → ∀ m : Nat, m < 7 → mvOk b h m = true := by decide +kernel
theorem mvB_in {b h m : Nat} (hb : b < 128) (h1 : 1 ≤ h) (hm : h + m < 7) (hh : hasBP b (h + m) = true) (hl : hasBP b m = false) :
    mvB b m (h + m) < 128 ∧ wsum (mvB b m (h + m)) + h = wsum b ∧ bits BinOp.or IntKind.u64 (bits BinOp.andNot IntKind.u64 (b : Int) (IntKind.u64.wrap (2 ^ (h + m)))) (IntKind.u64.wrap (2 ^ m)) = (mvB b m (h + m) : Int) := by
  have := mvOk_all b hb h (by omega) m (by omega)
  simp only [mvOk, hm, h1, hh, hl, decide_true, Bool.not_false, Bool.and_self, Bool.not_true, Bool.false_or, Bool.and_eq_true, decide_eq_true_eq] at this
  exact ⟨this.1.1, this.1.2, this.2⟩
def sumN : Nat → (Nat → Int) → Int
  | 0, _ => 0
  | n + 1, f => sumN n f + f n
theorem sumN_bd {f : Nat → Int} {B : Int} (hB : 0 ≤ B) (h : ∀ m, -B ≤ f m ∧ f m ≤ B) : ∀ n : Nat, -((n : Int) * B) ≤ sumN n f ∧ sumN n f ≤ n * B := by
  intro n
  induction n with
  | zero => simp [sumN]
  | succ n ih =>
    have := h n
    have e : ((n + 1 : Nat) : Int) * B = n * B + B := by rw [Int.natCast_add, Int.add_mul]; simp
    simp only [sumN, e]
    omega
/-- The sum over all ways to take off hooks, as the program has it. -/
def chIP : List Int → Nat → Int
  | [], _ => 1
  | x :: r, b => sumN (7 - x.toNat) fun m => if hasBP b (x.toNat + m) && !hasBP b m then sgB b m (x.toNat + m) * chIP r (mvB b m (x.toNat + m)) else 0
theorem sgB_or (b lo hh : Nat) : sgB b lo hh = 1 ∨ sgB b lo hh = -1 := by unfold sgB; split <;> simp
theorem term_bd {s c B : Int} {q : Bool} (hB : 0 ≤ B) (hs : s = 1 ∨ s = -1) (hc : -B ≤ c ∧ c ≤ B) : -B ≤ (if q then s * c else 0) ∧ (if q then s * c else 0) ≤ B := by
  split
  · rcases hs with rfl | rfl <;> omega
  · omega
theorem chI_bd : ∀ (ys : List Int) (b : Nat), -((7 ^ ys.length : Nat) : Int) ≤ chIP ys b ∧ chIP ys b ≤ ((7 ^ ys.length : Nat) : Int) := by
  intro ys
  induction ys with
  | nil => intro b; simp [chIP]
  | cons x r ih =>
    intro b
    have e1 : 7 ^ (x :: r).length = 7 ^ r.length * 7 := by rw [List.length_cons, Nat.pow_succ]
    obtain ⟨q, hq⟩ : ∃ q : Nat, 7 ^ r.length = q := ⟨_, rfl⟩
    rw [e1]
    rw [hq] at ih ⊢
    have := sumN_bd (B := (q : Int)) (by omega) (fun m => term_bd (q := hasBP b (x.toNat + m) && !hasBP b m) (by omega) (sgB_or b m (x.toNat + m)) (ih (mvB b m (x.toNat + m)))) (7 - x.toNat)
    have h7 : ((7 - x.toNat : Nat) : Int) * (q : Int) ≤ 7 * (q : Int) := Int.mul_le_mul_of_nonneg_right (by omega) (by omega)
    simp only [chIP]
    omega
def nsum : List Int → Nat
  | [] => 0
  | x :: r => x.toNat + nsum r
/-- The rest of the hooks whose sum is at most s. -/
def suf : List Int → Nat → List Int
  | [], _ => []
  | x :: r, s => if nsum (x :: r) ≤ s then x :: r else suf r s
theorem suf_at : ∀ (t ys : List Int), (∀ x ∈ t, 1 ≤ x) → suf (t ++ ys) (nsum ys) = ys := by
  intro t ys
  have base : suf ys (nsum ys) = ys := by
    cases ys with
    | nil => rfl
    | cons y r => simp [suf]
  induction t with
  | nil => intro _; exact base
  | cons a t ih =>
    intro h
    have ha := h a (by simp)
    have hle : ∀ (t : List Int), nsum ys ≤ nsum (t ++ ys) := by
      intro t
      induction t with
      | nil => exact Nat.le_refl _
      | cons b t ih => simp only [List.cons_append, nsum]; omega
    have := hle t
    simp only [List.cons_append, suf]
    rw [if_neg (by simp only [nsum]; omega)]
    exact ih (fun x hx => h x (by simp [hx]))

/-- What the program keeps for a key: the character of what is left of the hooks, as the beads tell. -/
def keyF (hs : List Int) (C : Nat) (b : Nat) : Int := chIP (suf hs (wsum b - C)) b
theorem wf_ch {ys : List Int} {b : Nat} (h : ys.length ≤ 6) : (Lit.int .i64 (chIP ys b)).wf = true := by
  have := chI_bd ys b
  have h7 : 7 ^ ys.length ≤ 7 ^ 6 := Nat.pow_le_pow_right (by omega) h
  simp [Lit.wf, IntKind.min, IntKind.max, IntKind.bits, IntKind.signed]; omega

end Go.Proofs.Ytkbdbkoeahihiaa
