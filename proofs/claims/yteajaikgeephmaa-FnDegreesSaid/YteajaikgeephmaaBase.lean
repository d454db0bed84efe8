/-
  Words on memory for this seat's proofs: a slice of ints that reads as a list, rows that a call owns, and what becomes of them over later calls.
-/
import Derived.Test.YteajaikgeephmaaProg
import Derived.Test.YteajaikgeephmaaPlain
import Derived.WalkKit
import Derived.Below
import Derived.Laws.OwnMore
import Derived.Deep.AppendLies
import Derived.Deep.Draws
import Derived.Deep.QuietTactic
import Derived.BigQuiet
import Derived.Lib.Hide
import Derived.WalkSpells
import Derived.Maps.AppendAt
namespace Go.Proofs.Yteajaikgeephmaa
open Go.RowKit

def ints (xs : List Int) : List Value := xs.map (Value.int .i64)
theorem ints_len (xs : List Int) : (ints xs).length = xs.length := by simp [ints]
theorem ints_get {xs : List Int} {j : Nat} (h : j < xs.length) : (ints xs)[j]? = some (.int .i64 (gi xs j)) := by simp [ints, gi, List.getD, h]

/-- The slice value with the address A and n elements reads as the list xs. -/
def Rd (w : World) (A : Option Addr) (n : Nat) (xs : List Int) : Prop :=
  xs.length = n ∧ (0 < n → ∃ ad : Addr, A = some ad ∧ ∀ j, j < n → w.cell? (ad.add j) = some (.int .i64 (gi xs j)))

theorem add_block (a : Addr) (n : Nat) : (a.add n).block = a.block := by unfold Addr.add; split <;> rfl

section
variable {w w' : World} {A : Option Addr} {n : Nat} {xs : List Int}
theorem Rd.at_ {k : Nat} (h : Rd w A n xs) (hk : k < n) : ∃ ad : Addr, A = some ad ∧ w.cell? (ad.add k) = some (.int .i64 (gi xs k)) := by
  obtain ⟨ad, e, hc⟩ := h.2 (by omega)
  exact ⟨ad, e, hc k hk⟩
theorem Rd.lt (h : Rd w A n xs) : ∀ ad : Addr, A = some ad → 0 < n → ad.block < w.heap.size := by
  intro ad hA hn
  obtain ⟨ad', e, hc⟩ := h.2 hn
  rw [hA] at e
  injection e with e
  subst e
  have := World.block_lt_of_cell? w _ (hc 0 hn)
  rwa [add_block] at this
theorem Rd.keep (h : Rd w A n xs) (hk : ∀ p : Addr, p.block < w.heap.size → w'.cell? p = w.cell? p) : Rd w' A n xs :=
  ⟨h.1, fun hn => by
    obtain ⟨ad, e, hc⟩ := h.2 hn
    exact ⟨ad, e, fun j hj => (hk _ (World.block_lt_of_cell? w _ (hc j hj))).trans (hc j hj)⟩⟩
theorem Rd.below (h : Rd w A n xs) (hb : Below w.heap.size w w') : Rd w' A n xs := h.keep fun _ hp => hb.cell hp
theorem Rd.drewN (h : Rd w A n xs) (k : Nat) : Rd (w.drewN k) A n xs := h
theorem Rd.drew (h : Rd w A n xs) : Rd w.drew A n xs := h
theorem Rd.alloc (h : Rd w A n xs) (o : Obj) : Rd (w.alloc o) A n xs := h.below ((Below.refl _ _).alloc (Nat.le_refl _) o)
theorem Rd.of_row {a : Addr} {len cap : Nat} {zs : List Int} (hl : len ≤ cap) (hz : zs.length = cap) (hc : ∀ i, i < zs.length → w.cell? (a.add i) = some (.int .i64 (zs.getD i 0))) : Rd w (some a) len (zs.take len) :=
  ⟨by rw [List.length_take]; omega, fun _ => ⟨a, rfl, fun j hj => by
    rw [hc j (by omega)]
    have : gi (zs.take len) j = zs.getD j 0 := by simp [gi, List.getD, hj]
    rw [this]⟩⟩
theorem Rd.nil_ (w : World) (A : Option Addr) : Rd w A 0 [] := ⟨rfl, fun h => absurd h (by omega)⟩
end

/-- The slice value v owns, from block lo on, the list xs. -/
def Own (w : World) (lo : Nat) (v : Value) (xs : List Int) : Prop := w.ownsRow lo 3 1 v xs.length (ints xs)

section
variable {w w' : World} {lo lo' : Nat} {v : Value} {xs : List Int}
/-- What such a value looks like. -/
theorem Own.form (h : Own w lo v xs) : ∃ A c, v = .slice A xs.length c ∧ Rd w A xs.length xs ∧ xs.length ≤ maxLen := by
  have h0 := h
  obtain ⟨_, hc⟩ := h
  rcases hc with ⟨rfl, hn⟩ | ⟨g, cap, cur, rfl, _, hh, hn, hm, _⟩
  · exact ⟨none, 0, by rw [hn], ⟨rfl, fun hp => absurd hp (by omega)⟩, by rw [hn]; exact Nat.zero_le _⟩
  · refine ⟨some ⟨g, 0, none⟩, cap, rfl, ⟨rfl, fun _ => ⟨_, rfl, fun j hj => ?_⟩⟩, Nat.le_trans hn hm⟩
    exact h0.cells (g := g) rfl j _ (ints_get hj)
/-- .. its length under a name of its own. -/
theorem Own.form' (h : Own w lo v xs) {n : Nat} (hn : xs.length = n) : ∃ A c, v = .slice A n c ∧ Rd w A n xs ∧ n ≤ maxLen := by subst hn; exact h.form
theorem Own.lt (h : Own w lo v xs) : ∀ k, v.ownBlock = some k → lo ≤ k ∧ k < w.heap.size := World.ownsRow.lt h
theorem Own.below (h : Own w lo v xs) (hb : Below w.heap.size w w') : Own w' lo v xs :=
  World.ownsRow.kept h (row := none) ⟨hb.os, hb.tape, hb.output, hb.size, fun k hk _ => hb.block k hk⟩ (by cases v.ownBlock <;> simp)
theorem Own.mono (h : Own w lo v xs) (hl : lo' ≤ lo) : Own w lo' v xs := by
  obtain ⟨h1, h2⟩ := h
  refine ⟨h1, ?_⟩
  rcases h2 with h2 | ⟨g, cap, cur, hv, hg, r⟩
  · exact .inl h2
  · exact .inr ⟨g, cap, cur, hv, by omega, r⟩
theorem Own.drewN (h : Own w lo v xs) (k : Nat) : Own (w.drewN k) lo v xs := h
theorem Own.nil_ (w : World) (lo : Nat) : Own w lo (.slice none 0 0) [] := World.ownsRow_nil w lo _ _
/-- Over a write into another row. -/
theorem Own.grown (h : Own w lo v xs) {row : Option Nat} (hg : w.grownBy w' row) (hne : v.ownBlock = none ∨ v.ownBlock ≠ row) : Own w' lo v xs := World.ownsRow.kept h hg hne
/-- Two rows, the one made when there were m blocks, the other later, do not meet. -/
theorem ne_of {v v' : Value} {m : Nat} (h : ∀ k, v.ownBlock = some k → k < m) (h' : ∀ k, v'.ownBlock = some k → m ≤ k) : v.ownBlock = none ∨ v.ownBlock ≠ v'.ownBlock := by
  cases hv : v.ownBlock with
  | none => exact .inl rfl
  | some k =>
    refine .inr fun e => ?_
    have a := h k hv
    have b := h' k e.symm
    omega
theorem ne_of' {v v' : Value} {m : Nat} (h : ∀ k, v.ownBlock = some k → m ≤ k) (h' : ∀ k, v'.ownBlock = some k → k < m) : v.ownBlock = none ∨ v.ownBlock ≠ v'.ownBlock := by
  cases hv : v.ownBlock with
  | none => exact .inl rfl
  | some k =>
    refine .inr fun e => ?_
    have a := h k hv
    have b := h' k e.symm
    omega
/-- A slice that came in reads as it did over a write into a row made since. -/
theorem Rd.grown {A : Option Addr} {n : Nat} {m : Nat} {v : Value} (h : Rd w A n xs) (hA : ∀ ad, A = some ad → 0 < n → ad.block < m) (hg : w.grownBy w' v.ownBlock) (hv : ∀ k, v.ownBlock = some k → m ≤ k) : Rd w' A n xs :=
  ⟨h.1, fun hn => by
    obtain ⟨ad, e, hc⟩ := h.2 hn
    refine ⟨ad, e, fun j hj => ?_⟩
    refine (World.cell?_of_block (w := w) (w' := w') ?_).trans (hc j hj)
    rw [add_block]
    have hb := World.block_lt_of_cell? w _ (hc j hj)
    rw [add_block] at hb
    refine hg.block _ hb (fun e' => ?_)
    have := hv _ e'.symm
    have := hA ad e hn
    omega⟩
end

/-- An element of a row of one's own: where it lies, that it may be written. -/
theorem Own.cellAt {w : World} {lo n c k : Nat} {A : Option Addr} {xs : List Int} (h : Own w lo (.slice A n c) xs) (hn : xs.length = n) (hk : k < n) :
    ∃ g, A = some ⟨g, 0, none⟩ ∧ lo ≤ g ∧ w.cell? ⟨g, k, none⟩ = some (.int .i64 (gi xs k)) ∧ w.frozen? ⟨g, k, none⟩ = false := by
  subst hn
  have h0 := h
  obtain ⟨_, hc⟩ := h
  rcases hc with ⟨hv, hn⟩ | ⟨g, cap, cur, hv, hg, _⟩
  · omega
  · simp only [Value.slice.injEq, true_and] at hv
    obtain ⟨rfl, rfl⟩ := hv
    refine ⟨g, rfl, hg, ?_, World.ownsRow.frozenAt h0 k⟩
    rw [World.ownsRow.cellAt h0 k (by omega)]
    exact ints_get hk
theorem set_ints {xs : List Int} (k : Nat) (u : Int) : (ints xs).set k (.int .i64 u) = ints (xs.set k u) := by simp [ints, List.map_set]
theorem Own.stored {w : World} {lo n c g : Nat} {xs : List Int} (h : Own w lo (.slice (some ⟨g, 0, none⟩) n c) xs) (hn : xs.length = n) (k : Nat) (u : Int) :
    Own (w.setCell ⟨g, k, none⟩ (.int .i64 u)) lo (.slice (some ⟨g, 0, none⟩) n c) (xs.set k u) ∧ w.grownBy (w.setCell ⟨g, k, none⟩ (.int .i64 u)) (some g) := by
  subst hn
  have := World.ownsRow.stored h k (.int .i64 u)
  rw [set_ints] at this
  refine ⟨?_, this.2⟩
  unfold Own
  rw [List.length_set]
  exact this.1
theorem grownBy_trans {a b c : World} {row : Option Nat} (h : a.grownBy b row) (k : b.grownBy c row) : a.grownBy c row :=
  ⟨k.os.trans h.os, k.tape.trans h.tape, k.output.trans h.output, Nat.le_trans h.size k.size, fun i hi hne => (k.block i (Nat.lt_of_lt_of_le hi h.size) hne).trans (h.block i hi hne)⟩
theorem below_of_grown {w w' : World} {row : Option Nat} {B : Nat} (h : w.grownBy w' row) (hB : B ≤ w.heap.size) (hr : ∀ k, row = some k → B ≤ k) : Below B w w' := (Below.refl B w).grown h hB hr
theorem below_drewN {B : Nat} {a w : World} (h : Below B a w) (n : Nat) : Below B a (w.drewN n) := ⟨h.os, h.tape, h.output, h.size, h.block⟩
/-- A row just made of n noughts. -/
theorem Own.made {w : World} {lo g n c : Nat} (h : w.ownsRow lo 3 1 (.slice (some ⟨g, 0, none⟩) n c) n (madeCells (Value.int .i64 0).cells (n * 1)).toList) : Own w lo (.slice (some ⟨g, 0, none⟩) n c) (List.replicate n 0) := by
  unfold Own
  have e : (Value.int IntKind.i64 0).cells = #[Value.int IntKind.i64 0] := rfl
  rw [e, Nat.mul_one, toList_madeCells_one] at h
  simpa [ints] using h

theorem Own.empty {w : World} {lo : Nat} (h : lo ≤ w.heap.size) : Own (w.alloc (.cells #[] 3)) lo (.slice (some ⟨w.heap.size, 0, none⟩) 0 0) [] :=
  World.ownsRow_lit w #[] 0 h (Nat.zero_le _) rfl
theorem Own.rd {w : World} {lo n c : Nat} {A : Option Addr} {xs : List Int} (h : Own w lo (.slice A n c) xs) (hn : xs.length = n) : Rd w A n xs :=
  ⟨hn, fun hp => by
    obtain ⟨g, hA, _⟩ := h.cellAt hn hp
    subst hA
    refine ⟨_, rfl, fun j hj => ?_⟩
    obtain ⟨g', hA, _, hc, _⟩ := h.cellAt hn hj
    simp only [Option.some.injEq, Addr.mk.injEq, and_true] at hA
    subst hA
    rw [show (⟨g, 0, none⟩ : Addr).add j = ⟨g, j, none⟩ from by unfold Addr.add; split <;> simp_all]
    exact hc⟩

theorem info_int : (Try.prog.info? 3).map (fun i => (i.zero, i.size, i.bytes)) = some (some (.int .i64 0), 1, 8) := by kernel_rfl

end Go.Proofs.Yteajaikgeephmaa
