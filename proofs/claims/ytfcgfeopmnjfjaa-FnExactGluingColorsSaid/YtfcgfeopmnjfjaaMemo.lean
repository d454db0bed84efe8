/-
  A count that is kept: the map of pairs that a closure keeps holds only what one plain function says; the look-up and the store at the operation.
-/
import Derived.Test.YtfcgfeopmnjfjaaKit
import Derived.WalkKit
import Derived.Below
import Derived.Lib.Hide
import Derived.Maps.OwnSet
import Derived.Maps.OwnOps
import Derived.DeepKeys5
namespace Go.Proofs.Ytfcgfeopmnjfjaa
open Go.RowKit Go.Maps
set_option linter.unusedVariables false

def kv (e g : Int) : Value := .agg #[.int .i64 e, .int .i64 g]
def Dom (e g : Int) : Prop := -1 ≤ e ∧ e ≤ 20 ∧ -1 ≤ g ∧ g ≤ 20
theorem kv_inj {e g e' g' : Int} (h : kv e g = kv e' g') : e = e' ∧ g = g' := by simp [kv] at h; exact h

theorem pair_keyed : Keyed Try.prog 61 :=
  Keyed.of_law (deep_law_gate (by kernel_rfl) (of_decide_eq_true (by kernel_rfl)) (of_decide_eq_true (by kernel_rfl)) (by kernel_rfl) (by rw [Try.underlying61]))

theorem wf_small {x : Int} (h0 : -1 ≤ x) (h1 : x ≤ 20) : (Lit.int .i64 x).wf = true := by
  simp [Lit.wf, IntKind.min, IntKind.max, IntKind.bits, IntKind.signed]; omega

theorem keyType_pair : Try.prog.keyType 61 = true := by kernel_rfl
theorem cells_pair : Try.prog.cellsOf 61 = 2 := by kernel_rfl
theorem cells_int : Try.prog.cellsOf 3 = 1 := by kernel_rfl

theorem key_int {x : Int} (h : (Lit.int .i64 x).wf = true) (m : Nat) : Try.prog.keyLits (m + 1) 3 [.int .i64 x] = some [.int .i64 x] := by
  unfold Program.keyLits
  rw [Try.underlying3]
  simp [h]

theorem key_kv {e g : Int} (h : Dom e g) : ∃ kl, keyOf Try.prog 61 (kv e g) = some kl := by
  have he := wf_small h.1 h.2.1
  have hg := wf_small h.2.2.1 h.2.2.2
  apply Option.isSome_iff_exists.1
  unfold keyOf
  rw [Try.underlying61]
  simp only [keyType_pair, kv, Value.formed, Try.underlying61, cells_pair, Value.cells]
  obtain ⟨m, hm⟩ : ∃ m, Try.prog.types.size + 1 = m + 2 := ⟨Try.prog.types.size - 1, by have : 0 < Try.prog.types.size := of_decide_eq_true (by kernel_rfl); omega⟩
  rw [hm]
  unfold Program.keyLits
  rw [Try.underlying61]
  simp [cells_pair, cells_int, key_int he, key_int hg]

/-- Block b is a map whose entries are pairs in the domain, each with what F says. -/
def Kept (F : Int → Int → Int) (w : World) (b : Nat) : Prop :=
  ∃ es clock, w.heap[b]? = some (.map es clock) ∧ WideElems.Fit Try.prog 61 (plainElem (H := Unit) Try.prog 3) es clock ∧
    ∀ x ∈ es.toList, ∃ e g, Dom e g ∧ x.key = kv e g ∧ x.val = .int .i64 (F e g)

theorem nodup_le : ∀ (n : Nat) (l : List Nat), l.Nodup → (∀ x ∈ l, x < n) → l.length ≤ n := by
  intro n
  induction n with
  | zero => intro l _ h; cases l with
    | nil => simp
    | cons a r => exact absurd (h a (by simp)) (by omega)
  | succ n ih =>
    intro l hn h
    have h1 := ih (l.filter (· ≠ n)) (hn.filter _) (fun x hx => by
      have := List.mem_filter.1 hx
      have h2 := h x this.1
      have h3 : x ≠ n := by simpa using this.2
      omega)
    have h2 : l.length ≤ (l.filter (· ≠ n)).length + 1 := by
      clear ih h h1
      induction l with
      | nil => simp
      | cons a r ih =>
        rw [List.nodup_cons] at hn
        by_cases e : a = n
        · have : r.filter (· ≠ n) = r := List.filter_eq_self.2 (fun x hx => by
            have : x ≠ n := fun e' => hn.1 (by rw [e, ← e']; exact hx)
            simpa using this)
          rw [List.filter_cons_of_neg (by simp [e]), this]; simp
        · have := ih hn.2
          rw [List.filter_cons_of_pos (by simp [e])]; simp only [List.length_cons]; omega
    omega

theorem Kept.lt {F : Int → Int → Int} {w : World} {b : Nat} (h : Kept F w b) : b < w.heap.size := by
  obtain ⟨es, clock, hb, _⟩ := h
  exact (Array.getElem?_eq_some_iff.1 hb).1
theorem Kept.grown {F : Int → Int → Int} {w w' : World} {b : Nat} {row : Option Nat} (h : Kept F w b) (hg : w.grownBy w' row) (hne : some b ≠ row) : Kept F w' b := by
  have hlt := h.lt
  obtain ⟨es, clock, hb, r⟩ := h
  exact ⟨es, clock, (hg.block b hlt hne).trans hb, r⟩
theorem Kept.made (F : Int → Int → Int) (w : World) : Kept F (w.alloc (.map #[] 0)) w.heap.size :=
  ⟨#[], 0, (MapKept.heap_alloc w _).1, ⟨by simp, MapKept.stamped_empty 0, by simp⟩, by simp⟩

def code (v : Value) : Nat := match v with
  | .agg #[.int _ e, .int _ g] => ((e + 1) * 30 + (g + 1)).toNat
  | _ => 0
theorem code_kv (e g : Int) : code (kv e g) = ((e + 1) * 30 + (g + 1)).toNat := rfl

theorem kept_room {F : Int → Int → Int} {es : Array MapEntry} {clock : Nat} (hs : MapKept.Stamped es clock) (h : ∀ x ∈ es.toList, ∃ e g, Dom e g ∧ x.key = kv e g ∧ x.val = .int .i64 (F e g)) : es.size < maxLen := by
  have hk := ((MapKept.stamped_iff es clock).1 hs).2.2
  have h1 : (es.toList.map fun x => code x.key).Nodup := by
    rw [List.Nodup, List.pairwise_map]
    refine List.Pairwise.imp_of_mem ?_ hk
    intro a b ha hb hne e
    obtain ⟨e1, g1, d1, k1, -⟩ := h a ha
    obtain ⟨e2, g2, d2, k2, -⟩ := h b hb
    rw [k1, k2, code_kv, code_kv] at e
    obtain ⟨a1, a2, a3, a4⟩ := d1
    obtain ⟨b1, b2, b3, b4⟩ := d2
    have : e1 = e2 ∧ g1 = g2 := by omega
    exact hne (by rw [k1, k2, this.1, this.2])
  have h2 := nodup_le 1000 _ h1 (by
    intro x hx
    obtain ⟨y, hy, rfl⟩ := List.mem_map.1 hx
    obtain ⟨e1, g1, d1, k1, -⟩ := h y hy
    rw [k1, code_kv]
    obtain ⟨a1, a2, a3, a4⟩ := d1
    omega)
  simp at h2
  unfold maxLen
  omega

theorem zero_int (w : World) : (zeroValue 3).run Try.prog w = .ok (.int .i64 0) w := by kernel_rfl

section
variable {F : Int → Int → Int}
/-- 'n, ok := kept[p]': what F says, and true; or 0, and false. -/
theorem wpList_look {w : World} {ops : Array Oper} {rest : List Oper} {o : Oper} {a : Act} {Q : Exit → Act → World → Prop}
    (hg : o.guard = none) (m x : Operand) (hop : o.op = Op.lookup 88 m x true) (b : Nat) (hk : Kept F w b) (e g : Int) (hd : Dom e g)
    (hm : a.eval m = .map (some b)) (hx : a.eval x = kv e g)
    (h1 : wpList Try.prog ops Q rest (a.put o.dst (.tuple #[.int .i64 (F e g), .bool true])) w)
    (h0 : wpList Try.prog ops Q rest (a.put o.dst (.tuple #[.int .i64 0, .bool false])) w) :
    wpList Try.prog ops Q (o :: rest) a w := by
  refine wpList_plain hg fun K' hK' => ?_
  obtain ⟨es, clock, hb, fit, hall⟩ := hk
  obtain ⟨kl, hkey⟩ := key_kv hd
  unfold Oper.wp
  rcases Maps.fit_look (z := .int .i64 0) true pair_keyed Try.underlying88 (zero_int w) hb fit hkey with ⟨hrun, _, _⟩ | ⟨e0, y, hmem, hek, hrun, _⟩
  · simp [execOp, hop, hm, hx, hrun, Result.andThen]
    exact hK' _ _ h0
  · obtain ⟨e', g', _, k', v'⟩ := hall e0 hmem
    obtain ⟨rfl, rfl⟩ := kv_inj (k'.symm.trans hek)
    simp [execOp, hop, hm, hx, hrun, v', Result.andThen]
    exact hK' _ _ h1

/-- 'kept[p] = n'. -/
theorem wpList_keep {w : World} {ops : Array Oper} {rest : List Oper} {o : Oper} {a : Act} {Q : Exit → Act → World → Prop}
    (hg : o.guard = none) (m x v : Operand) (hop : o.op = Op.mapUpdate 88 m x v) (b : Nat) (hk : Kept F w b) (e g : Int) (hd : Dom e g)
    (hm : a.eval m = .map (some b)) (hx : a.eval x = kv e g) (r : Int) (hv : a.eval v = .int .i64 r) (hr : r = F e g) (hwf : (Lit.int .i64 r).wf = true)
    (hK : ∀ w', Kept F w' b → w.grownBy w' (some b) → wpList Try.prog ops Q rest (a.put o.dst undef) w') :
    wpList Try.prog ops Q (o :: rest) a w := by
  refine wpList_plain hg fun K' hK' => ?_
  obtain ⟨es, clock, hb, fit, hall⟩ := hk
  obtain ⟨kl, hkey⟩ := key_kv hd
  obtain ⟨es', clock', hrun, fit', _, _, _, hwho⟩ := Maps.fit_store (R' := plainElem (H := Unit) Try.prog 3) pair_keyed Try.underlying88 hb fit (kept_room fit.stamped hall) (fun _ _ _ _ hz => hz) hkey (plainElem_int Try.underlying3 hwf)
  unfold Oper.wp
  simp [execOp, hop, hm, hx, hv, hrun, Result.andThen]
  refine hK' _ _ (hK _ ⟨es', clock', ChangeMaps.heap_setBlock_same hb _, fit', fun y hy => ?_⟩ ⟨rfl, rfl, rfl, by simp [ChangeMaps.setBlock], fun i _ hi => ChangeMaps.heap_setBlock_other hb _ (fun e => hi (by rw [e]))⟩)
  rcases hwho y hy with ⟨hm1, _⟩ | ⟨hk1, hv1⟩
  · exact hall y hm1
  · exact ⟨e, g, hd, hk1, by rw [hv1, hr]⟩
end

def clo (kb rb cb : Nat) : Value := .func (.func 102) #[] #[.pointer (some ⟨kb, 0, none⟩), .pointer (some ⟨rb, 0, none⟩), .pointer (some ⟨cb, 0, none⟩)]
structure Env (F : Int → Int → Int) (R : Nat) (w : World) (kb rb cb mb : Nat) : Prop where
  k0 : w.cell? ⟨kb, 0, none⟩ = some (.map (some mb))
  r0 : w.cell? ⟨rb, 0, none⟩ = some (.func (.func R) #[] #[])
  c0 : w.cell? ⟨cb, 0, none⟩ = some (clo kb rb cb)
  kept : Kept F w mb
  nk : kb ≠ mb
  nr : rb ≠ mb
  nc : cb ≠ mb

theorem Env.grown {F : Int → Int → Int} {R : Nat} {w w' : World} {kb rb cb mb : Nat} (h : Env F R w kb rb cb mb) (hg : w.grownBy w' (some mb)) (hk : Kept F w' mb) : Env F R w' kb rb cb mb :=
  ⟨hg.cell h.k0 (by simp; exact h.nk), hg.cell h.r0 (by simp; exact h.nr), hg.cell h.c0 (by simp; exact h.nc), hk, h.nk, h.nr, h.nc⟩
theorem Env.alloc {F : Int → Int → Int} {R : Nat} {w : World} {kb rb cb mb : Nat} (h : Env F R w kb rb cb mb) (o : Obj) : Env F R (w.alloc o) kb rb cb mb :=
  h.grown (World.grownBy_alloc w o _) (h.kept.grown (World.grownBy_alloc w o none) (by simp))

theorem Env.drewN {F : Int → Int → Int} {R : Nat} {w : World} {kb rb cb mb : Nat} (h : Env F R w kb rb cb mb) (d : Nat) : Env F R (w.drewN d) kb rb cb mb :=
  ⟨h.k0, h.r0, h.c0, h.kept, h.nk, h.nr, h.nc⟩
theorem grown_drewN {w w' : World} {row : Option Nat} (h : w.grownBy w' row) (d : Nat) : w.grownBy (w'.drewN d) row := ⟨h.os, h.tape, h.output, h.size, h.block⟩

def CountsAt (F : Int → Int → Int) (R : Nat) (e g : Int) : Prop :=
  ∀ (w : World) (kb rb cb mb : Nat), Env F R w kb rb cb mb →
    Calls Try.prog 102 #[kv e g, .pointer (some ⟨kb, 0, none⟩), .pointer (some ⟨rb, 0, none⟩), .pointer (some ⟨cb, 0, none⟩)] w fun x w' => x = .returned (.int .i64 (F e g)) ∧ Env F R w' kb rb cb mb ∧ w.grownBy w' (some mb)
def RuleAt (F : Int → Int → Int) (R : Nat) (e g : Int) : Prop :=
  ∀ (w : World) (kb rb cb mb : Nat), Env F R w kb rb cb mb →
    Calls Try.prog R #[kv e g, clo kb rb cb] w fun x w' => x = .returned (.int .i64 (F e g)) ∧ Env F R w' kb rb cb mb ∧ w.grownBy w' (some mb)

theorem made0 (w : World) (t : TypeId) (u u' : Value) : (w.alloc (.cells #[u, u'] t)).cell? ⟨w.heap.size, 0, none⟩ = some u := by
  rw [cell_of_row _ _ 0 #[u, u'] t (0, 0) (MapKept.heap_alloc w _).1]; rfl
theorem made1 (w : World) (t : TypeId) (u u' : Value) : (w.alloc (.cells #[u, u'] t)).cell? ⟨w.heap.size, 1, none⟩ = some u' := by
  rw [cell_of_row _ _ 1 #[u, u'] t (0, 0) (MapKept.heap_alloc w _).1]; rfl

end Go.Proofs.Ytfcgfeopmnjfjaa
