/-
  A count that is kept: the map of pairs that a closure keeps holds only what one plain function says; the look-up and the store at the operation.
  Maps by genus, the program's: the rule, and the closure that keeps.
  Maps by genus, the program's: from the call on.
-/
import Derived.Test.YtakckkmhhedfpaaKit
import Derived.WalkKit
import Derived.Below
import Derived.Lib.Hide
import Derived.Maps.OwnSet
import Derived.Maps.OwnOps
import Derived.DeepKeys5
namespace Go.Proofs.Ytakckkmhhedfpaa
open Go.RowKit Go.Maps
set_option linter.unusedVariables false

def kv (e g : Int) : Value := .agg #[.int .i64 e, .int .i64 g]
def Dom (e g : Int) : Prop := -1 ≤ e ∧ e ≤ 20 ∧ -1 ≤ g ∧ g ≤ 20
theorem kv_inj {e g e' g' : Int} (h : kv e g = kv e' g') : e = e' ∧ g = g' := by simp [kv] at h; exact h

theorem pair_keyed : Keyed Try.prog 56 :=
  Keyed.of_law (deep_law_gate (by kernel_rfl) (of_decide_eq_true (by kernel_rfl)) (of_decide_eq_true (by kernel_rfl)) (by kernel_rfl) (by rw [Try.underlying56]))

theorem wf_small {x : Int} (h0 : -1 ≤ x) (h1 : x ≤ 20) : (Lit.int .i64 x).wf = true := by
  simp [Lit.wf, IntKind.min, IntKind.max, IntKind.bits, IntKind.signed]; omega

theorem keyType_pair : Try.prog.keyType 56 = true := by kernel_rfl
theorem cells_pair : Try.prog.cellsOf 56 = 2 := by kernel_rfl
theorem cells_int : Try.prog.cellsOf 3 = 1 := by kernel_rfl

theorem key_int {x : Int} (h : (Lit.int .i64 x).wf = true) (m : Nat) : Try.prog.keyLits (m + 1) 3 [.int .i64 x] = some [.int .i64 x] := by
  unfold Program.keyLits
  rw [Try.underlying3]
  simp [h]

theorem key_kv {e g : Int} (h : Dom e g) : ∃ kl, keyOf Try.prog 56 (kv e g) = some kl := by
  have he := wf_small h.1 h.2.1
  have hg := wf_small h.2.2.1 h.2.2.2
  apply Option.isSome_iff_exists.1
  unfold keyOf
  rw [Try.underlying56]
  simp only [keyType_pair, kv, Value.formed, Try.underlying56, cells_pair, Value.cells]
  obtain ⟨m, hm⟩ : ∃ m, Try.prog.types.size + 1 = m + 2 := ⟨Try.prog.types.size - 1, by have : 0 < Try.prog.types.size := of_decide_eq_true (by kernel_rfl); omega⟩
  rw [hm]
  unfold Program.keyLits
  rw [Try.underlying56]
  simp [cells_pair, cells_int, key_int he, key_int hg]

/-- Block b is a map whose entries are pairs in the domain, each with what F says. -/
def Kept (F : Int → Int → Int) (w : World) (b : Nat) : Prop :=
  ∃ es clock, w.heap[b]? = some (.map es clock) ∧ WideElems.Fit Try.prog 56 (plainElem (H := Unit) Try.prog 3) es clock ∧
    ∀ x ∈ es.toList, ∃ e g, Dom e g ∧ x.key = kv e g ∧ x.val = .int .i64 (F e g)

theorem nodup_le : ∀ (n : Nat) (l : List Nat), l.Nodup → (∀ x ∈ l, x < n) → l.length ≤ n := by
  intro n
  induction n with
  | zero => intro l _ h; cases l with
    | nil => simp
    | cons a r => exact absurd (h a (by simp)) (by omega)
  | succ n ih =>
    intro l hn h
    have h1 := ih (l.filter (· ≠ n)) (hn.filter _) (fun x hx => by
      have := List.mem_filter.1 hx
      have h2 := h x this.1
      have h3 : x ≠ n := by simpa using this.2
      omega)
    have h2 : l.length ≤ (l.filter (· ≠ n)).length + 1 := by
      clear ih h h1
      induction l with
      | nil => simp
      | cons a r ih =>
        rw [List.nodup_cons] at hn
        by_cases e : a = n
        · have : r.filter (· ≠ n) = r := List.filter_eq_self.2 (fun x hx => by
            have : x ≠ n := fun e' => hn.1 (by rw [e, ← e']; exact hx)
            simpa using this)
          rw [List.filter_cons_of_neg (by simp [e]), this]; simp
        · have := ih hn.2
          rw [List.filter_cons_of_pos (by simp [e])]; simp only [List.length_cons]; omega
    omega

theorem Kept.lt {F : Int → Int → Int} {w : World} {b : Nat} (h : Kept F w b) : b < w.heap.size := by
  obtain ⟨es, clock, hb, _⟩ := h
  exact (Array.getElem?_eq_some_iff.1 hb).1
theorem Kept.grown {F : Int → Int → Int} {w w' : World} {b : Nat} {row : Option Nat} (h : Kept F w b) (hg : w.grownBy w' row) (hne : some b ≠ row) : Kept F w' b := by
  have hlt := h.lt
  obtain ⟨es, clock, hb, r⟩ := h
  exact ⟨es, clock, (hg.block b hlt hne).trans hb, r⟩
theorem Kept.made (F : Int → Int → Int) (w : World) : Kept F (w.alloc (.map #[] 0)) w.heap.size :=
  ⟨#[], 0, (MapKept.heap_alloc w _).1, ⟨by simp, MapKept.stamped_empty 0, by simp⟩, by simp⟩

def code (v : Value) : Nat := match v with
  | .agg #[.int _ e, .int _ g] => ((e + 1) * 30 + (g + 1)).toNat
  | _ => 0
theorem code_kv (e g : Int) : code (kv e g) = ((e + 1) * 30 + (g + 1)).toNat := rfl

theorem kept_room {F : Int → Int → Int} {es : Array MapEntry} {clock : Nat} (hs : MapKept.Stamped es clock) (h : ∀ x ∈ es.toList, ∃ e g, Dom e g ∧ x.key = kv e g ∧ x.val = .int .i64 (F e g)) : es.size < maxLen := by
  have hk := ((MapKept.stamped_iff es clock).1 hs).2.2
  have h1 : (es.toList.map fun x => code x.key).Nodup := by
    rw [List.Nodup, List.pairwise_map]
    refine List.Pairwise.imp_of_mem ?_ hk
    intro a b ha hb hne e
    obtain ⟨e1, g1, d1, k1, -⟩ := h a ha
    obtain ⟨e2, g2, d2, k2, -⟩ := h b hb
    rw [k1, k2, code_kv, code_kv] at e
    obtain ⟨a1, a2, a3, a4⟩ := d1
    obtain ⟨b1, b2, b3, b4⟩ := d2
    have : e1 = e2 ∧ g1 = g2 := by omega
    exact hne (by rw [k1, k2, this.1, this.2])
  have h2 := nodup_le 1000 _ h1 (by
    intro x hx
    obtain ⟨y, hy, rfl⟩ := List.mem_map.1 hx
    obtain ⟨e1, g1, d1, k1, -⟩ := h y hy
    rw [k1, code_kv]
    obtain ⟨a1, a2, a3, a4⟩ := d1
    omega)
  simp at h2
  unfold maxLen
  omega

theorem zero_int (w : World) : (zeroValue 3).run Try.prog w = .ok (.int .i64 0) w := by kernel_rfl

section
variable {F : Int → Int → Int}
/-- 'n, ok := kept[p]': what F says, and true; or 0, and false. -/
theorem wpList_look {w : World} {ops : Array Oper} {rest : List Oper} {o : Oper} {a : Act} {Q : Exit → Act → World → Prop}
    (hg : o.guard = none) (m x : Operand) (hop : o.op = Op.lookup 80 m x true) (b : Nat) (hk : Kept F w b) (e g : Int) (hd : Dom e g)
    (hm : a.eval m = .map (some b)) (hx : a.eval x = kv e g)
    (h1 : wpList Try.prog ops Q rest (a.put o.dst (.tuple #[.int .i64 (F e g), .bool true])) w)
    (h0 : wpList Try.prog ops Q rest (a.put o.dst (.tuple #[.int .i64 0, .bool false])) w) :
    wpList Try.prog ops Q (o :: rest) a w := by
  refine wpList_plain hg fun K' hK' => ?_
  obtain ⟨es, clock, hb, fit, hall⟩ := hk
  obtain ⟨kl, hkey⟩ := key_kv hd
  unfold Oper.wp
  rcases Maps.fit_look (z := .int .i64 0) true pair_keyed Try.underlying80 (zero_int w) hb fit hkey with ⟨hrun, _, _⟩ | ⟨e0, y, hmem, hek, hrun, _⟩
  · simp [execOp, hop, hm, hx, hrun, Result.andThen]
    exact hK' _ _ h0
  · obtain ⟨e', g', _, k', v'⟩ := hall e0 hmem
    obtain ⟨rfl, rfl⟩ := kv_inj (k'.symm.trans hek)
    simp [execOp, hop, hm, hx, hrun, v', Result.andThen]
    exact hK' _ _ h1

/-- 'kept[p] = n'. -/
theorem wpList_keep {w : World} {ops : Array Oper} {rest : List Oper} {o : Oper} {a : Act} {Q : Exit → Act → World → Prop}
    (hg : o.guard = none) (m x v : Operand) (hop : o.op = Op.mapUpdate 80 m x v) (b : Nat) (hk : Kept F w b) (e g : Int) (hd : Dom e g)
    (hm : a.eval m = .map (some b)) (hx : a.eval x = kv e g) (r : Int) (hv : a.eval v = .int .i64 r) (hr : r = F e g) (hwf : (Lit.int .i64 r).wf = true)
    (hK : ∀ w', Kept F w' b → w.grownBy w' (some b) → wpList Try.prog ops Q rest (a.put o.dst undef) w') :
    wpList Try.prog ops Q (o :: rest) a w := by
  refine wpList_plain hg fun K' hK' => ?_
  obtain ⟨es, clock, hb, fit, hall⟩ := hk
  obtain ⟨kl, hkey⟩ := key_kv hd
  obtain ⟨es', clock', hrun, fit', _, _, _, hwho⟩ := Maps.fit_store (R' := plainElem (H := Unit) Try.prog 3) pair_keyed Try.underlying80 hb fit (kept_room fit.stamped hall) (fun _ _ _ _ hz => hz) hkey (plainElem_int Try.underlying3 hwf)
  unfold Oper.wp
  simp [execOp, hop, hm, hx, hv, hrun, Result.andThen]
  refine hK' _ _ (hK _ ⟨es', clock', ChangeMaps.heap_setBlock_same hb _, fit', fun y hy => ?_⟩ ⟨rfl, rfl, rfl, by simp [ChangeMaps.setBlock], fun i _ hi => ChangeMaps.heap_setBlock_other hb _ (fun e => hi (by rw [e]))⟩)
  rcases hwho y hy with ⟨hm1, _⟩ | ⟨hk1, hv1⟩
  · exact hall y hm1
  · exact ⟨e, g, hd, hk1, by rw [hv1, hr]⟩
end

def clo (kb rb cb : Nat) : Value := .func (.func 83) #[] #[.pointer (some ⟨kb, 0, none⟩), .pointer (some ⟨rb, 0, none⟩), .pointer (some ⟨cb, 0, none⟩)]
structure Env (F : Int → Int → Int) (R : Nat) (w : World) (kb rb cb mb : Nat) : Prop where
  k0 : w.cell? ⟨kb, 0, none⟩ = some (.map (some mb))
  r0 : w.cell? ⟨rb, 0, none⟩ = some (.func (.func R) #[] #[])
  c0 : w.cell? ⟨cb, 0, none⟩ = some (clo kb rb cb)
  kept : Kept F w mb
  nk : kb ≠ mb
  nr : rb ≠ mb
  nc : cb ≠ mb

theorem Env.grown {F : Int → Int → Int} {R : Nat} {w w' : World} {kb rb cb mb : Nat} (h : Env F R w kb rb cb mb) (hg : w.grownBy w' (some mb)) (hk : Kept F w' mb) : Env F R w' kb rb cb mb :=
  ⟨hg.cell h.k0 (by simp; exact h.nk), hg.cell h.r0 (by simp; exact h.nr), hg.cell h.c0 (by simp; exact h.nc), hk, h.nk, h.nr, h.nc⟩
theorem Env.alloc {F : Int → Int → Int} {R : Nat} {w : World} {kb rb cb mb : Nat} (h : Env F R w kb rb cb mb) (o : Obj) : Env F R (w.alloc o) kb rb cb mb :=
  h.grown (World.grownBy_alloc w o _) (h.kept.grown (World.grownBy_alloc w o none) (by simp))

theorem Env.drewN {F : Int → Int → Int} {R : Nat} {w : World} {kb rb cb mb : Nat} (h : Env F R w kb rb cb mb) (d : Nat) : Env F R (w.drewN d) kb rb cb mb :=
  ⟨h.k0, h.r0, h.c0, h.kept, h.nk, h.nr, h.nc⟩
theorem grown_drewN {w w' : World} {row : Option Nat} (h : w.grownBy w' row) (d : Nat) : w.grownBy (w'.drewN d) row := ⟨h.os, h.tape, h.output, h.size, h.block⟩

def CountsAt (F : Int → Int → Int) (R : Nat) (e g : Int) : Prop :=
  ∀ (w : World) (kb rb cb mb : Nat), Env F R w kb rb cb mb →
    Calls Try.prog 83 #[kv e g, .pointer (some ⟨kb, 0, none⟩), .pointer (some ⟨rb, 0, none⟩), .pointer (some ⟨cb, 0, none⟩)] w fun x w' => x = .returned (.int .i64 (F e g)) ∧ Env F R w' kb rb cb mb ∧ w.grownBy w' (some mb)
def RuleAt (F : Int → Int → Int) (R : Nat) (e g : Int) : Prop :=
  ∀ (w : World) (kb rb cb mb : Nat), Env F R w kb rb cb mb →
    Calls Try.prog R #[kv e g, clo kb rb cb] w fun x w' => x = .returned (.int .i64 (F e g)) ∧ Env F R w' kb rb cb mb ∧ w.grownBy w' (some mb)

theorem made0 (w : World) (t : TypeId) (u u' : Value) : (w.alloc (.cells #[u, u'] t)).cell? ⟨w.heap.size, 0, none⟩ = some u := by
  rw [cell_of_row _ _ 0 #[u, u'] t (0, 0) (MapKept.heap_alloc w _).1]; rfl
theorem made1 (w : World) (t : TypeId) (u u' : Value) : (w.alloc (.cells #[u, u'] t)).cell? ⟨w.heap.size, 1, none⟩ = some u' := by
  rw [cell_of_row _ _ 1 #[u, u'] t (0, 0) (MapKept.heap_alloc w _).1]; rfl

end Go.Proofs.Ytakckkmhhedfpaa

namespace Go.Proofs.Ytakckkmhhedfpaa
open Go.RowKit Go.Maps
set_option linter.unusedVariables false

def qT : List (List Int) := [[1, 0, 0, 0, 0, 0], [2, 0, 0, 0, 0, 0], [9, 1, 0, 0, 0, 0], [54, 20, 0, 0, 0, 0], [378, 307, 21, 0, 0, 0], [2916, 4280, 966, 0, 0, 0], [24057, 56914, 27954, 1485, 0, 0], [208494, 736568, 650076, 113256, 0, 0], [1876446, 9370183, 13271982, 5008230, 225225, 0], [17399772, 117822512, 248371380, 167808024, 24635754, 0]]
def qF (e g : Int) : Int := if 0 ≤ e ∧ 0 ≤ g then (qT.getD e.toNat []).getD g.toNat 0 else 0

theorem count_g {e g : Int} (hd : Dom e g) (hwf : (Lit.int .i64 (qF e g)).wf = true) (h : RuleAt qF 54 e g) : CountsAt qF 54 e g := by
  intro w kb rb cb mb he
  have he1 := he.alloc (.cells #[.int .i64 e, .int .i64 g] 56 (0, 0))
  have k0 := he1.k0
  have r0 := he1.r0
  have c0 := he1.c0
  have HE := Lib.hid he
  have HE1 := Lib.hid he1
  clear he he1
  unfold kv
  go_enter Try.func83, Try.ntmps83
  go_wp2_with (at_lookup; refine wpList_look rfl _ _ rfl mb HE1.out.kept e g hd rfl rfl ?_ ?_)
  · go_ret
    exact ⟨rfl, HE1.out, World.grownBy_alloc _ _ _⟩
  · refine (h _ kb rb cb mb HE1.out).mono ?_
    rintro x w2 ⟨rfl, he2, hg⟩
    have hne : w.heap.size ≠ mb := by have := HE.out.kept.lt; omega
    have e0 := hg.cell (a := ⟨w.heap.size, 0, none⟩) (v := .int .i64 e) (made0 _ _ _ _) (by simpa using hne)
    have e1 := hg.cell (a := ⟨w.heap.size, 1, none⟩) (v := .int .i64 g) (made1 _ _ _ _) (by simpa using hne)
    have k0' := he2.k0
    have HE2 := Lib.hid he2; have HG := Lib.hid hg
    clear he2 hg k0 r0 c0
    go_wp2_with (at_mapUpdate; refine wpList_keep rfl _ _ _ rfl mb HE2.out.kept e g hd rfl rfl _ rfl rfl hwf ?_; intro w3 hk3 hg3)
    go_ret
    exact ⟨rfl, HE2.out.grown hg3 hk3, (World.grownBy_alloc w _ _).trans (HG.out.trans hg3)⟩

theorem retI {a b : Int} (h : a = b) : Ending.returned (.int .i64 a) = .returned (.int .i64 b) := by rw [h]
/-- The sums of the rule, as they go. -/
def gIn (e g k : Int) (s : Int) : Nat → Int
  | 0 => s
  | i + 1 => wrap64 (gIn e g k s i + wrap64 (wrap64 (wrap64 (3 * (2 * (k + 1) - 1) * (2 * (e - (k + 1)) - 1)) * qF k i) * qF (e - (k + 1) - 1) (g - i)))
def gOut (e g : Int) (s : Int) : Nat → Int
  | 0 => s
  | k + 1 => gIn e g k (gOut e g s k) (g.toNat + 1)
def gBase (e g : Int) : Int :=
  wrap64 (wrap64 (2 * (4 * e - 2) * qF (e - 1) g) + wrap64 (wrap64 (wrap64 ((2 * e - 3) * (e - 1)) * (2 * e - 1)) * qF (e - 2) (g - 1)))
theorem genus_ok : ∀ k : Nat, k < 9 → ∀ g : Nat, g < 6 → wrap64 ((gOut ((k : Int) + 1) g (gBase ((k : Int) + 1) g) k).tdiv ((k : Int) + 1 + 1)) = qF ((k + 1 : Nat) : Int) g := by decide +kernel
theorem qT_wf : ∀ e : Nat, e < 10 → ∀ g : Nat, g < 6 → (Lit.int .i64 ((qT.getD e []).getD g 0)).wf = true := by decide +kernel
theorem qF_wf {e g : Int} (he : e ≤ 9) (hg : g ≤ 5) : (Lit.int .i64 (qF e g)).wf = true := by
  unfold qF
  split
  · exact qT_wf e.toNat (by omega) g.toNat (by omega)
  · decide
theorem qF_edge {e g : Int} (he : e ≤ 9) (hg : g ≤ 5) (h : e < 1 ∨ g < 0) (h0 : ¬ (e = 0 ∧ g = 0)) : qF e g = 0 := by
  unfold qF
  split
  · rename_i h1
    obtain rfl : e = 0 := by omega
    have : ∀ g : Nat, g < 6 → g ≠ 0 → (qT.getD 0 []).getD g 0 = 0 := by decide +kernel
    exact this g.toNat (by omega) (by omega)
  · rfl
set_option maxHeartbeats 800000 in
theorem rule_edge (e g : Int) (hd : Dom e g) (he : e ≤ 9) (hg : g ≤ 5) (h : e < 1 ∨ g < 0) : RuleAt qF 54 e g := by
  intro w kb rb cb mb hE
  have hE1 := hE.alloc (.cells #[.int .i64 e, .int .i64 g] 56 (0, 0))
  have HE1 := Lib.hid hE1
  clear hE hE1
  have d0 := made0 w 56 (.int .i64 e) (.int .i64 g)
  have d1 := made1 w 56 (.int .i64 e) (.int .i64 g)
  by_cases h0 : e = 0 ∧ g = 0
  · obtain ⟨rfl, rfl⟩ := h0
    unfold kv clo
    go_enter Try.func54, Try.ntmps54
    go_wp2_with fail
    go_quiet (fail)
    go_wp2_with fail
    go_ret
    exact ⟨rfl, HE1.out.drewN _, grown_drewN (World.grownBy_alloc _ _ _) _⟩
  · have hf := qF_edge he hg h h0
    rcases Int.lt_or_le e 1 with h1 | h1
    · have hz : ((e : Int) == 0 && (g : Int) == 0) = false := by rw [Bool.eq_false_iff]; intro hh; simp at hh; exact h0 hh
      have hd1 : decide (e < 1) = true := by simp; omega
      by_cases he0 : e = 0
      · subst he0
        have hg0 : (g == 0) = false := by simp; omega
        unfold kv clo
        go_enter Try.func54, Try.ntmps54
        go_wp2_with fail
        go_quiet (fail)
        go_wp2_with fail
        go_ret
        exact ⟨retI hf.symm, HE1.out.drewN _, grown_drewN (World.grownBy_alloc _ _ _) _⟩
      · have he0' : (e == 0) = false := by simpa using he0
        unfold kv clo
        go_enter Try.func54, Try.ntmps54
        go_wp2_with fail
        go_quiet (fail)
        go_wp2_with fail
        go_ret
        exact ⟨retI hf.symm, HE1.out.drewN _, grown_drewN (World.grownBy_alloc _ _ _) _⟩
    · have he0' : (e == 0) = false := by simp; omega
      have hd1 : decide (e < 1) = false := by simp; omega
      have hd2 : decide (g < 0) = true := by simp; omega
      unfold kv clo
      go_enter Try.func54, Try.ntmps54
      go_wp2_with fail
      go_quiet (fail)
      go_wp2_with fail
      go_ret
      exact ⟨retI hf.symm, HE1.out.drewN _, grown_drewN (World.grownBy_alloc _ _ _) _⟩

set_option maxHeartbeats 1600000 in
theorem rule_g (e g : Nat) (he1 : 1 ≤ e) (he : e ≤ 9) (hg : g ≤ 5) (ih : ∀ e' g' : Int, Dom e' g' → e' < e → g' ≤ 5 → CountsAt qF 54 e' g') :
    RuleAt qF 54 e g := by
  intro w kb rb cb mb hE
  have hE1 := hE.alloc (.cells #[.int .i64 e, .int .i64 g] 56 (0, 0))
  have HE := Lib.hid hE
  have HE1 := Lib.hid hE1
  clear hE hE1
  have d0 := made0 w 56 (.int .i64 e) (.int .i64 g)
  have d1 := made1 w 56 (.int .i64 e) (.int .i64 g)
  have hz : ((e : Int) == 0) = false := by simp; omega
  have hz1 : decide ((e : Int) < 1) = false := by simp; omega
  have hz2 : decide ((g : Int) < 0) = false := by simp
  have HG1 := Lib.hid (World.grownBy_alloc w (.cells #[.int .i64 e, .int .i64 g] 56 (0, 0)) (some mb))
  have IH := Lib.hid ih; clear ih
  unfold kv clo
  go_enter Try.func54, Try.ntmps54
  go_wp2_with fail
  go_quiet (fail)
  go_wp2_with fail
  refine (IH.out (e - 1) g ⟨by omega, by omega, by omega, by omega⟩ (by omega) (by omega) _ kb rb cb mb (HE1.out.drewN _)).mono ?_
  rintro x w2 ⟨rfl, he2, hg2⟩
  have HE2 := Lib.hid he2
  have HG2 := Lib.hid ((grown_drewN HG1.out _).trans hg2)
  clear he2 hg2 d0 d1
  go_wp2_with fail
  refine (IH.out (e - 2) (g - 1) ⟨by omega, by omega, by omega, by omega⟩ (by omega) (by omega) _ kb rb cb mb HE2.out).mono ?_
  rintro x w3 ⟨rfl, he3, hg3⟩
  have HE3 := Lib.hid he3
  have HG3 := Lib.hid (HG2.out.trans hg3)
  clear he3 hg3
  clear HE1 HG1 HE2 HG2
  go_wp2_with fail
  go_loopw [7, 8] (fun sv kv' wr => ∃ k : Nat, k + 1 ≤ e ∧ kv' = .int .i64 (k + 1) ∧ sv = .int .i64 (gOut e g (gBase e g) k) ∧ Hid (Env qF 54 wr kb rb cb mb) ∧ Hid (w.grownBy wr (some mb))) (fun _ kv' _ => e - (intOf kv').toNat)
  case atStart => exact ⟨0, by omega, rfl, rfl, HE3, HG3⟩
  case round =>
    obtain ⟨k, hk, rfl, rfl, he3, hg3⟩ := hrel
    by_cases hlt : k + 1 < e
    · have hd1 : decide ((k : Int) + 1 < (e : Int)) = true := by simp; omega
      go_wp2_with fail
      go_loopw [7, 68] (fun sv iv wr' => ∃ i : Nat, i ≤ g + 1 ∧ iv = .int .i64 i ∧ sv = .int .i64 (gIn e g k (gOut e g (gBase e g) k) i) ∧ Hid (Env qF 54 wr' kb rb cb mb) ∧ Hid (w.grownBy wr' (some mb))) (fun _ iv _ => g + 1 - (intOf iv).toNat)
      case atStart => exact ⟨0, by omega, rfl, rfl, he3, hg3⟩
      case round =>
        obtain ⟨i, hi, rfl, rfl, he4, hg4⟩ := hrel
        by_cases hlt2 : i < g + 1
        · go_wp2_with fail
          refine (IH.out k i ⟨by omega, by omega, by omega, by omega⟩ (by omega) (by omega) _ kb rb cb mb he4.out).mono ?_
          rintro x w5 ⟨rfl, he5, hg5⟩
          have HE5 := Lib.hid he5
          have HG5 := Lib.hid (hg4.out.trans hg5)
          clear he5 hg5
          go_wp2_with fail
          refine (IH.out (e - (k + 1) - 1) (g - i) ⟨by omega, by omega, by omega, by omega⟩ (by omega) (by omega) _ kb rb cb mb HE5.out).mono ?_
          rintro x w6 ⟨rfl, he6, hg6⟩
          have HE6 := Lib.hid he6
          have HG6 := Lib.hid (HG5.out.trans hg6)
          clear he6 hg6
          go_wp2_with fail
          go_roundw
          case rel => exact ⟨i + 1, by omega, by go_num, rfl, HE6, HG6⟩
          case measure => simp [intOf]; omega
        · obtain rfl : i = g + 1 := by omega
          go_wp2_with fail
          go_roundw
          case rel => exact ⟨k + 1, by omega, by go_num, rfl, he4, hg4⟩
          case measure => simp [intOf]; omega
    · obtain rfl : e = k + 1 := by omega
      go_wp2_with fail
      go_ret
      exact ⟨retI (genus_ok k (by omega) g (by omega)), he3.out, hg3.out⟩

theorem counts_all : ∀ (n : Nat) (e g : Int), Dom e g → e ≤ 9 → g ≤ 5 → e < n → CountsAt qF 54 e g := by
  intro n
  induction n with
  | zero =>
    intro e g hd he hg hn
    exact count_g hd (qF_wf he hg) (rule_edge e g hd he hg (by omega))
  | succ n ih =>
    intro e g hd he hg hn
    refine count_g hd (qF_wf he hg) ?_
    by_cases h : e < 1 ∨ g < 0
    · exact rule_edge e g hd he hg h
    · obtain ⟨e', rfl⟩ : ∃ k : Nat, e = k := ⟨e.toNat, by omega⟩
      obtain ⟨g', rfl⟩ : ∃ k : Nat, g = k := ⟨g.toNat, by omega⟩
      exact rule_g e' g' (by omega) (by omega) (by omega) (fun e2 g2 h1 h2 h3 => ih e2 g2 h1 (by omega) h3 (by omega))

end Go.Proofs.Ytakckkmhhedfpaa

namespace Go.Proofs.Ytakckkmhhedfpaa
open Go.RowKit Go.Maps
set_option linter.unusedVariables false

theorem run_store_func {P : Program} {w : World} {a : Addr} (f : Fn) (x y : Array Value) (m : Mode) : (store a (.func f x y) m).run P w = stored P w a (.func f x y) m := run_store P w a _ m rfl
attribute [local go_sem] run_store_func

theorem made_one (w : World) (t : TypeId) (u : Value) : (w.alloc (.cells #[u] t)).cell? ⟨w.heap.size, 0, none⟩ = some u := by
  rw [cell_of_row _ _ 0 #[u] t (0, 0) (MapKept.heap_alloc w _).1]; rfl
theorem keeping_env (F : Int → Int → Int) (R : Nat) (w : World) (t1 t2 t3 : TypeId) (v : Value) (hv : v = clo (w.heap.size + 1 + 1) w.heap.size (w.heap.size + 1 + 1 + 1)) :
    Env F R ((((w.alloc (.cells #[.func (.func R) #[] #[]] t1)).alloc (.map #[] 0)).alloc (.cells #[.map (some (w.heap.size + 1))] t2)).alloc (.cells #[v] t3)) (w.heap.size + 1 + 1) w.heap.size (w.heap.size + 1 + 1 + 1) (w.heap.size + 1) := by
  subst hv
  obtain ⟨W1, h1⟩ : ∃ W, w.alloc (.cells #[.func (.func R) #[] #[]] t1) = W := ⟨_, rfl⟩
  have s1 : W1.heap.size = w.heap.size + 1 := by rw [← h1]; simp
  have c1 : W1.cell? ⟨w.heap.size, 0, none⟩ = some (.func (.func R) #[] #[]) := by rw [← h1]; exact made_one _ _ _
  rw [h1, ← s1]
  obtain ⟨W2, h2⟩ : ∃ W, W1.alloc (.map #[] 0) = W := ⟨_, rfl⟩
  have s2 : W2.heap.size = W1.heap.size + 1 := by rw [← h2]; simp
  have k2 : Kept F W2 W1.heap.size := by rw [← h2]; exact Kept.made F W1
  have g2 : W1.grownBy W2 none := by rw [← h2]; exact World.grownBy_alloc _ _ _
  rw [h2, ← s2]
  obtain ⟨W3, h3⟩ : ∃ W, W2.alloc (.cells #[.map (some W1.heap.size)] t2) = W := ⟨_, rfl⟩
  have s3 : W3.heap.size = W2.heap.size + 1 := by rw [← h3]; simp
  have c3 : W3.cell? ⟨W2.heap.size, 0, none⟩ = some (.map (some W1.heap.size)) := by rw [← h3]; exact made_one _ _ _
  have g3 : W2.grownBy W3 none := by rw [← h3]; exact World.grownBy_alloc _ _ _
  rw [h3, ← s3]
  have g4 := World.grownBy_alloc W3 (.cells #[clo W2.heap.size w.heap.size W3.heap.size] t3) none
  exact ⟨g4.cell c3 (by simp), g4.cell (g3.cell (g2.cell c1 (by simp)) (by simp)) (by simp), made_one _ _ _, (k2.grown g3 (by simp)).grown g4 (by simp), by omega, by omega, by omega⟩

set_option maxHeartbeats 800000 in
theorem keeping_any (F : Int → Int → Int) (R : Nat) (w : World) :
    Calls Try.prog 53 #[.func (.func R) #[] #[]] w fun x w' => ∃ kb rb cb mb, x = .returned (clo kb rb cb) ∧ Env F R w' kb rb cb mb ∧ Below w.heap.size w w' ∧ w.heap.size ≤ mb := by
  have hmm := @run_makeMap Try.prog
  go_enter Try.func53, Try.ntmps53
  go_wp2_with fail
  go_ret
  refine ⟨_, _, _, w.heap.size + 1, rfl, ?_, ?_, by omega⟩
  · exact keeping_env F R w _ _ _ _ rfl
  · exact ((((Below.refl _ _).alloc (Nat.le_refl _) _).alloc (by simp) _).alloc (by simp; omega) _).alloc (by simp; omega) _

def runF (e g : Int) : Int := if 0 ≤ e ∧ e ≤ 9 ∧ 0 ≤ g ∧ g ≤ 5 then qF e g else -1

set_option maxHeartbeats 800000 in
theorem impl_run (w : World) (e g : Int) (hw : (Lit.int .i64 e).wf = true) (hw' : (Lit.int .i64 g).wf = true) {r : Int} (hr : runF e g = r) :
    Calls Try.prog 26 #[.int .i64 e, .int .i64 g] w fun x w' => x = .returned (.int .i64 r) ∧ Below w.heap.size w w' := by
  by_cases h : 0 ≤ e ∧ e ≤ 9 ∧ 0 ≤ g ∧ g ≤ 5
  · rw [runF, if_pos h] at hr
    have HR := Lib.hid hr; clear hr
    obtain ⟨h1, h2, h3, h4⟩ := h
    have d1 : decide (e < 0) = false := by simp; omega
    have d2 : decide (e > 9) = false := by simp; omega
    have d3 : decide (g < 0) = false := by simp; omega
    have d4 : decide (g > 5) = false := by simp; omega
    go_enter Try.func26, Try.ntmps26
    go_wp2_with fail
    refine (keeping_any qF 54 w).mono ?_
    rintro x w2 ⟨kb, rb, cb, mb, rfl, he, hb, hle⟩
    have HE := Lib.hid he; have HB := Lib.hid hb; clear he hb
    unfold clo
    go_wp2_with fail
    refine (counts_all 10 e g ⟨by omega, by omega, by omega, by omega⟩ h2 h4 (by omega) w2 kb rb cb mb HE.out).mono ?_
    rintro x w3 ⟨rfl, he3, hg3⟩
    have HB3 := Lib.hid (HB.out.grown hg3 HB.out.size (fun k e => by cases e; exact hle)); clear he3 hg3
    go_wp2_with fail
    go_ret
    exact ⟨retI HR.out, HB3.out⟩
  · rw [runF, if_neg h] at hr
    subst hr
    by_cases d1 : e < 0
    · go_enter Try.func26, Try.ntmps26
      go_wp2_with fail
      go_ret
      exact ⟨rfl, Below.refl _ _⟩
    by_cases d2 : 9 < e
    · go_enter Try.func26, Try.ntmps26
      go_wp2_with fail
      go_ret
      exact ⟨rfl, Below.refl _ _⟩
    by_cases d3 : g < 0
    · go_enter Try.func26, Try.ntmps26
      go_wp2_with fail
      go_ret
      exact ⟨rfl, Below.refl _ _⟩
    have d4 : 5 < g := by omega
    go_enter Try.func26, Try.ntmps26
    go_wp2_with fail
    go_ret
    exact ⟨rfl, Below.refl _ _⟩

end Go.Proofs.Ytakckkmhhedfpaa
