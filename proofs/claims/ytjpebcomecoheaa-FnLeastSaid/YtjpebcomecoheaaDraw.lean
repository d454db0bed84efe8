/-
  The draws: a reader over the code's bytes, and what it picks.
-/
import Derived.Test.YtjpebcomecoheaaSeen
namespace Go.Proofs.Ytjpebcomecoheaa
open Go.RowKit
attribute [local go_sem] Oper.semAt_some

/-- The slice of n bytes at A reads as bs. -/
def RdB (w : World) (A : Option Addr) (n : Nat) (bs : List Int) : Prop :=
  bs.length = n ∧ (0 < n → ∃ ad : Addr, A = some ad ∧ ∀ j, j < n → w.cell? (ad.add j) = some (.int .u8 (gi bs j))) ∧ ∀ j, j < n → 0 ≤ gi bs j ∧ gi bs j ≤ 255

/-- The reader at block rb, q bytes on. -/
def AtR (w : World) (rb : Nat) (A : Option Addr) (L c q : Nat) : Prop := w.heap[rb]? = some (.cells #[.slice A L c, .int .i64 q] 95 (0, 0))

theorem xor_nat (a b : Nat) (ha : a < 4611686018427387904) (hb : b < 4611686018427387904) : bits .xor .i64 (a : Int) (b : Int) = ((a ^^^ b : Nat) : Int) := by
  have hx : a ^^^ b < 2 ^ 62 := Nat.xor_lt_two_pow (by omega) (by omega)
  have h1 : (BitVec.ofInt 64 (a : Int)).toNat = a := by
    rw [BitVec.ofInt_natCast, BitVec.toNat_ofNat]; exact Nat.mod_eq_of_lt (by omega)
  have h2 : (BitVec.ofInt 64 (b : Int)).toNat = b := by
    rw [BitVec.ofInt_natCast, BitVec.toNat_ofNat]; exact Nat.mod_eq_of_lt (by omega)
  show IntKind.i64.wrap ((BitVec.ofInt 64 (a : Int) ^^^ BitVec.ofInt 64 (b : Int)).toNat : Int) = _
  rw [BitVec.toNat_xor, h1, h2]
  exact IntWalk.i64_in _ (by omega)
theorem mix_pos (X n : Int) (h0 : 0 ≤ X) (h1 : X < 4611686018427387904) (hn : 1 ≤ n) : 0 ≤ (bits .xor .i64 X (X / 64)).tmod n ∧ (bits .xor .i64 X (X / 64)).tmod n < n := by
  obtain ⟨x, rfl⟩ : ∃ x : Nat, X = (x : Int) := ⟨X.toNat, by omega⟩
  have d : ((x : Int) / 64) = ((x / 64 : Nat) : Int) := by omega
  rw [d, xor_nat _ _ (by omega) (by omega), Int.tmod_eq_emod_of_nonneg (by omega)]
  exact ⟨Int.emod_nonneg _ (by omega), Int.emod_lt_of_pos _ (by omega)⟩

theorem open_any (w : World) (A : Option Addr) (n c : Nat) (hn : n ≤ 1048576) (hc : n ≤ c) :
    Calls Try.prog 62 #[.slice A n c] w fun e w' => e = .returned (.pointer (some ⟨w.heap.size, 0, none⟩)) ∧ ∃ L, L ≤ 2000 ∧ L ≤ n ∧ w' = w.alloc (.cells #[.slice A L c, .int .i64 0] 95) := by
  by_cases h2 : 2000 < n
  · have hd : decide ((2000 : Int) < n) = true := by simp; omega
    go_enter Try.func62, Try.ntmps62
    go_wp2
    go_ret
    exact ⟨rfl, 2000, by omega, by omega, rfl⟩
  · have hd : decide ((2000 : Int) < n) = false := by simp; omega
    go_enter Try.func62, Try.ntmps62
    go_wp2
    go_ret
    exact ⟨rfl, n, by omega, Nat.le_refl _, rfl⟩

set_option maxRecDepth 100000 in
theorem pick_any (w : World) (rb : Nat) (A : Option Addr) (L c q : Nat) (bs : List Int) (hr : AtR w rb A L c q) (hB : RdB w A L bs) (hL : L ≤ 2000) (hq : q ≤ 1000000) (hA : ∀ ad : Addr, A = some ad → 0 < L → ad.block ≠ rb) (n : Int) (hn : 1 ≤ n) (hn2 : n ≤ 1000000) :
    Calls Try.prog 92 #[.pointer (some ⟨rb, 0, none⟩), .int .i64 n] w fun e w' => ∃ x : Int, e = .returned (.int .i64 x) ∧ 0 ≤ x ∧ x < n ∧ ∃ d, w' = (w.setCell ⟨rb, 1, none⟩ (.int .i64 ((q : Int) + 1))).drewN d := by
  have hc0 : w.cell? ⟨rb, 0, none⟩ = some (.slice A L c) := by rw [cell_of_row w rb 0 _ _ (0, 0) hr]; rfl
  have hc1 : w.cell? ⟨rb, 1, none⟩ = some (.int .i64 q) := by rw [cell_of_row w rb 1 _ _ (0, 0) hr]; rfl
  have hf1 : w.frozen? ⟨rb, 1, none⟩ = false := frozen_of_row w rb 1 _ _ hr
  have hd1 : decide (n < 1) = false := by simp; omega
  by_cases h0 : L = 0
  · subst h0
    go_enter Try.func92, Try.ntmps92
    go_wp2
    go_ret
    exact ⟨0, rfl, by omega, by omega, 0, rfl⟩
  obtain ⟨ad, rfl, hcs⟩ := hB.2.1 (by omega)
  have hne := hA ad rfl (by omega)
  have hL0 : ((L : Int) == 0) = false := by simp; omega
  have hrd : ∀ j : Nat, j < L → (w.setCell ⟨rb, 1, none⟩ (.int .i64 ((q : Int) + 1))).cell? (ad.add j) = some (.int .u8 (gi bs j)) := fun j hj => by
    exact (show _ = w.cell? (ad.add j) from by rw [World.cell?_setCell_other]; intro e; exact hne (by rw [← add_block ad j, ← e])).trans (hcs j hj)
  have hby := hB.2.2
  have HRD := Lib.hid hrd; have HBY := Lib.hid hby
  by_cases hlt : q < L
  · have hd2 : decide (q < L) = true := by simpa using hlt
    have hc2 := hrd q hlt
    obtain ⟨hb1, hb2⟩ := hby q hlt
    obtain ⟨bb, hbb⟩ : ∃ bb, gi bs q = bb := ⟨_, rfl⟩
    rw [hbb] at hc2 hb1 hb2
    clear hrd hby hcs
    have hm : bb.tmod n = bb % n := Int.tmod_eq_emod_of_nonneg hb1
    have hm1 := Int.emod_nonneg bb (show n ≠ 0 by omega)
    have hm2 := Int.emod_lt_of_pos bb (show 0 < n by omega)
    go_enter Try.func92, Try.ntmps92
    go_wp2
    go_ret
    exact ⟨_, rfl, hm1, hm2, 0, rfl⟩
  · have hd2 : decide (q < L) = false := by simpa using hlt
    clear hrd hby hcs
    have hL1 : ¬ ((L : Int) = 0) := by omega
    have hL2 : ¬ L = 0 := h0
    have ht1 : (q : Int).tmod (L : Int) = ((q % L : Nat) : Int) := rfl
    have ht2 : ((q : Int) * 7 + 3).tmod (L : Int) = (((q * 7 + 3) % L : Nat) : Int) := rfl
    have ht3 : (q : Int).tdiv (L : Int) = ((q / L : Nat) : Int) := rfl
    obtain ⟨i1, hi1⟩ : ∃ i, q % L = i := ⟨_, rfl⟩
    obtain ⟨i2, hi2⟩ : ∃ i, (q * 7 + 3) % L = i := ⟨_, rfl⟩
    obtain ⟨i3, hi3⟩ : ∃ i, q / L = i := ⟨_, rfl⟩
    have hl1 : i1 < L := by rw [← hi1]; exact Nat.mod_lt _ (by omega)
    have hl2 : i2 < L := by rw [← hi2]; exact Nat.mod_lt _ (by omega)
    have hl3 : i3 ≤ q := by rw [← hi3]; exact Nat.div_le_self _ _
    rw [hi1] at ht1; rw [hi2] at ht2; rw [hi3] at ht3
    have hc2 := HRD.out i1 hl1
    have hc3 := HRD.out i2 hl2
    obtain ⟨hb1, hb2⟩ := HBY.out i1 hl1
    obtain ⟨hb3, hb4⟩ := HBY.out i2 hl2
    obtain ⟨b1, e1⟩ : ∃ bb, gi bs i1 = bb := ⟨_, rfl⟩
    obtain ⟨b2, e2⟩ : ∃ bb, gi bs i2 = bb := ⟨_, rfl⟩
    rw [e1] at hc2 hb1 hb2; rw [e2] at hc3 hb3 hb4
    clear hi1 hi2 hi3 e1 e2
    go_enter Try.func92, Try.ntmps92
    go_wp2
    go_quiet (fail)
    have hmx := mix_pos (b1 * 131 + b2 * 1117 + q * 29 + i3 * 53) n (by omega) (by omega) hn
    go_wp2
    go_ret
    exact ⟨_, rfl, hmx.1, hmx.2, _, rfl⟩

end Go.Proofs.Ytjpebcomecoheaa
