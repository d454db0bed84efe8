/-
  The draws: a reader over the code's bytes, and what it picks.
  The draws: permutations, and lists that are seldom none.
-/
import Derived.Test.YthcdhkelpepeeaaSeen
namespace Go.Proofs.Ythcdhkelpepeeaa
open Go.RowKit
attribute [local go_sem] Oper.semAt_some

/-- The slice of n bytes at A reads as bs. -/
def RdB (w : World) (A : Option Addr) (n : Nat) (bs : List Int) : Prop :=
  bs.length = n ∧ (0 < n → ∃ ad : Addr, A = some ad ∧ ∀ j, j < n → w.cell? (ad.add j) = some (.int .u8 (gi bs j))) ∧ ∀ j, j < n → 0 ≤ gi bs j ∧ gi bs j ≤ 255

theorem xor_nat (a b : Nat) (ha : a < 4611686018427387904) (hb : b < 4611686018427387904) : bits .xor .i64 (a : Int) (b : Int) = ((a ^^^ b : Nat) : Int) := by
  have hx : a ^^^ b < 2 ^ 62 := Nat.xor_lt_two_pow (by omega) (by omega)
  have h1 : (BitVec.ofInt 64 (a : Int)).toNat = a := by
    rw [BitVec.ofInt_natCast, BitVec.toNat_ofNat]; exact Nat.mod_eq_of_lt (by omega)
  have h2 : (BitVec.ofInt 64 (b : Int)).toNat = b := by
    rw [BitVec.ofInt_natCast, BitVec.toNat_ofNat]; exact Nat.mod_eq_of_lt (by omega)
  show IntKind.i64.wrap ((BitVec.ofInt 64 (a : Int) ^^^ BitVec.ofInt 64 (b : Int)).toNat : Int) = _
  rw [BitVec.toNat_xor, h1, h2]
  exact IntWalk.i64_in _ (by omega)
theorem mix_pos (X n : Int) (h0 : 0 ≤ X) (h1 : X < 4611686018427387904) (hn : 1 ≤ n) : 0 ≤ (bits .xor .i64 X (X / 64)).tmod n ∧ (bits .xor .i64 X (X / 64)).tmod n < n := by
  obtain ⟨x, rfl⟩ : ∃ x : Nat, X = (x : Int) := ⟨X.toNat, by omega⟩
  have d : ((x : Int) / 64) = ((x / 64 : Nat) : Int) := by omega
  rw [d, xor_nat _ _ (by omega) (by omega), Int.tmod_eq_emod_of_nonneg (by omega)]
  exact ⟨Int.emod_nonneg _ (by omega), Int.emod_lt_of_pos _ (by omega)⟩

end Go.Proofs.Ythcdhkelpepeeaa

namespace Go.Proofs.Ythcdhkelpepeeaa
open Go.RowKit

/-- What is not the reader's stays as it is. -/
def Gr (rb : Nat) (w w' : World) : Prop := w.grownBy w' (some rb)
theorem Gr.refl (rb : Nat) (w : World) : Gr rb w w := ⟨rfl, rfl, rfl, Nat.le_refl _, fun _ _ _ => rfl⟩
theorem Gr.trans {rb : Nat} {a b c : World} (h : Gr rb a b) (k : Gr rb b c) : Gr rb a c := grownBy_trans h k
theorem Gr.size {rb : Nat} {a b : World} (h : Gr rb a b) : a.heap.size ≤ b.heap.size := World.grownBy.size h
theorem Gr.own {rb : Nat} {a b c : World} {row : Option Nat} (h : Gr rb a b) (g : b.grownBy c row) (hr : ∀ k, row = some k → a.heap.size ≤ k) : Gr rb a c :=
  ⟨g.os.trans (World.grownBy.os h), g.tape.trans (World.grownBy.tape h), g.output.trans (World.grownBy.output h), Nat.le_trans h.size g.size, fun k hk hne =>
    (g.block k (Nat.lt_of_lt_of_le hk h.size) (fun e => by have := hr k e.symm; omega)).trans (World.grownBy.block h k hk hne)⟩
theorem Gr.of_below {rb : Nat} {a b c : World} (h : Gr rb a b) (k : Below b.heap.size b c) : Gr rb a c := h.own (row := none) ⟨k.os, k.tape, k.output, k.size, fun j hj _ => k.block j hj⟩ (fun _ e => by cases e)
theorem Gr.alloc {rb : Nat} {a b : World} (h : Gr rb a b) (o : Obj) : Gr rb a (b.alloc o) := h.of_below ((Below.refl _ _).alloc (Nat.le_refl _) o)
theorem Gr.below {rb : Nat} {a b : World} (h : Gr rb a b) (hr : rb ≤ a.heap.size) : Below rb a b := (Below.refl rb a).grown h hr (fun k e => by cases e; exact Nat.le_refl _)
/-- A row made since stays over what the reader does. -/
theorem Own.gr {w w' : World} {lo rb : Nat} {v : Value} {xs : List Int} (h : Own w lo v xs) (hg : Gr rb w w') (hr : rb < lo) : Own w' lo v xs :=
  h.grown hg (by
    cases hv : v.ownBlock with
    | none => exact .inl rfl
    | some j => exact .inr (by intro e; injection e with e; have := (h.lt j hv).1; omega))
theorem Rd.gr {w w' : World} {rb n : Nat} {A : Option Addr} {xs : List Int} (h : Rd w A n xs) (hg : Gr rb w w') (hA : ∀ ad : Addr, A = some ad → 0 < n → ad.block ≠ rb) : Rd w' A n xs :=
  ⟨h.1, fun hn => by
    obtain ⟨ad, e, hc⟩ := h.2 hn
    refine ⟨ad, e, fun j hj => (World.cell?_of_block ?_).trans (hc j hj)⟩
    have hb := World.block_lt_of_cell? w _ (hc j hj)
    rw [add_block] at hb ⊢
    exact World.grownBy.block hg _ hb (by intro e'; injection e' with e'; exact hA ad e hn e')⟩

/-- As many numbers as there are places, none twice. -/
def PL (ys : List Int) : Prop := (∀ j, j < ys.length → 0 ≤ gi ys j ∧ gi ys j < ys.length) ∧ ∀ j, j < ys.length → ∀ i, i < j → gi ys i ≠ gi ys j
theorem PL.nil_ : PL [] := ⟨fun j hj => absurd hj (by simp), fun j hj => absurd hj (by simp)⟩
theorem PL.vld {ys : List Int} (h : PL ys) (h1 : 1 ≤ ys.length) (h12 : ys.length ≤ 12) : Vld ys := ⟨h1, h12, h.1, h.2⟩
theorem gi_snoc (ys : List Int) (x : Int) (j : Nat) (hj : j < ys.length + 1) : gi (ys ++ [x]) j = if j = ys.length then x else gi ys j := by
  by_cases e : j = ys.length
  · subst e; simp [gi, List.getD]
  · rw [if_neg e]; simp [gi, List.getD, List.getElem?_append_left (show j < ys.length by omega)]
theorem PL.last {ys : List Int} (h : PL ys) : PL (ys ++ [(ys.length : Int)]) := by
  constructor
  · intro j hj
    simp only [List.length_append, List.length_cons, List.length_nil] at hj ⊢
    rw [gi_snoc _ _ _ (by omega)]
    split
    · omega
    · have := h.1 j (by omega); omega
  · intro j hj i hij
    simp only [List.length_append, List.length_cons, List.length_nil] at hj
    rw [gi_snoc _ _ _ (by omega), gi_snoc _ _ _ (by omega), if_neg (by omega)]
    split
    · have := h.1 i (by omega); omega
    · exact h.2 j (by omega) i hij
theorem PL.swap {ys : List Int} (h : PL ys) {x : Nat} (hx : x < ys.length) : PL ((ys ++ [gi ys x]).set x (ys.length : Int)) := by
  have hl : ((ys ++ [gi ys x]).set x (ys.length : Int)).length = ys.length + 1 := by simp
  have key : ∀ j, j < ys.length + 1 → gi ((ys ++ [gi ys x]).set x (ys.length : Int)) j = if j = x then (ys.length : Int) else if j = ys.length then gi ys x else gi ys j := fun j hj => by
    rw [gi_set _ _ _ _ (by simp; omega), gi_snoc _ _ _ hj]
  constructor
  · intro j hj
    rw [hl] at hj ⊢
    rw [key j hj]
    split
    · omega
    · split
      · have := h.1 x hx; omega
      · have := h.1 j (by omega); omega
  · intro j hj i hij
    rw [hl] at hj
    rw [key j hj, key i (by omega)]
    have hb : ∀ k, k < ys.length → gi ys k ≠ (ys.length : Int) := fun k hk => by have := h.1 k hk; omega
    by_cases e1 : i = x
    · rw [if_pos e1, if_neg (by omega)]
      split
      · exact fun e => hb x hx e.symm
      · exact fun e => hb j (by omega) e.symm
    · rw [if_neg e1, if_neg (by omega : ¬ i = ys.length)]
      by_cases e2 : j = x
      · rw [if_pos e2]; exact hb i (by omega)
      · rw [if_neg e2]
        by_cases e3 : j = ys.length
        · rw [if_pos e3]
          rcases Nat.lt_or_gt_of_ne e1 with hlt | hlt
          · exact h.2 x hx i hlt
          · exact fun e => h.2 i (by omega) x hlt e.symm
        · rw [if_neg e3]; exact h.2 j (by omega) i hij

theorem RdB.take {w : World} {A : Option Addr} {n L : Nat} {bs : List Int} (h : RdB w A n bs) (hL : L ≤ n) : RdB w A L (bs.take L) := by
  have key : ∀ j, j < L → gi (bs.take L) j = gi bs j := fun j hj => by simp [gi, List.getD, hj]
  refine ⟨by rw [List.length_take, h.1]; omega, fun h0 => ?_, fun j hj => by rw [key j hj]; exact h.2.2 j (by omega)⟩
  obtain ⟨ad, e, hc⟩ := h.2.1 (by omega)
  exact ⟨ad, e, fun j hj => by rw [key j hj]; exact hc j (by omega)⟩
theorem RdB.nil_ (w : World) (A : Option Addr) : RdB w A 0 [] := ⟨rfl, fun h => absurd h (by omega), fun j hj => absurd hj (by omega)⟩
theorem RdB.of_row {w : World} {a : Addr} {len cap : Nat} {zs : List Int} (hl : len ≤ cap) (hz : zs.length = cap) (hc : ∀ i, i < zs.length → w.cell? (a.add i) = some (.int .u8 (zs.getD i 0))) (hw : ∀ n ∈ zs, (Lit.int .u8 n).wf = true) : RdB w (some a) len (zs.take len) := by
  have key : ∀ j, j < len → gi (zs.take len) j = zs.getD j 0 := fun j hj => by simp [gi, List.getD, hj]
  refine ⟨by rw [List.length_take]; omega, fun _ => ⟨a, rfl, fun j hj => by rw [hc j (by omega), key j hj]⟩, fun j hj => ?_⟩
  rw [key j hj]
  have hj' : j < zs.length := by omega
  have e : zs.getD j 0 = zs[j] := by simp [List.getD, hj']
  have := hw _ (List.getElem_mem hj')
  rw [e]
  simp [Lit.wf, IntKind.min, IntKind.max, IntKind.bits, IntKind.signed] at this
  omega

end Go.Proofs.Ythcdhkelpepeeaa
