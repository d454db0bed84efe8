/-
  Beads: a set of small numbers as bits: the program's words for it.
-/
import Derived.Test.YtkbdbkoeahihiaaPtS
namespace Go.Proofs.Ytkbdbkoeahihiaa
open Go.RowKit

theorem ret_u64 {a b : Nat} (h : a = b) : Ending.returned (.int .u64 (a : Int)) = .returned (.int .u64 (b : Int)) := by rw [h]
def o1 (x : Int) : Int := IntKind.u64.wrap (bits BinOp.and IntKind.u64 (x / 2) 6148914691236517205 + bits BinOp.and IntKind.u64 x 6148914691236517205)
def o2 (x : Int) : Int := IntKind.u64.wrap (bits BinOp.and IntKind.u64 (x / 4) 3689348814741910323 + bits BinOp.and IntKind.u64 x 3689348814741910323)
def o3 (x : Int) : Int := bits BinOp.and IntKind.u64 (x / 16 + x) 1085102592571150095
def o7 (x : Int) : Int := bits BinOp.and IntKind.i64 x 127
def pc (b : Nat) : Int := (List.range 7).foldl (fun s i => s + if b.testBit i then 1 else 0) (0 : Int)
theorem o_in : ∀ b : Nat, b < 128 → (0 ≤ o1 b ∧ o1 b < 256) ∧ (0 ≤ o2 (o1 b) ∧ o2 (o1 b) < 256) ∧ (0 ≤ o3 (o2 (o1 b)) ∧ o3 (o2 (o1 b)) < 16) ∧ o7 (o3 (o2 (o1 b))) = pc b := by decide +kernel

theorem one_any (b : Nat) (w : World) (hb : b < 128)  :
    Calls Try.prog 104 #[.int .u64 b] w fun e w' => e = .returned (.int .i64 (pc b)) ∧ w' = w := by
  obtain ⟨⟨a1, a2⟩, ⟨b1, b2⟩, ⟨c1, c2⟩, d⟩ := o_in b hb
  obtain ⟨x1, h1⟩ : ∃ x1, o1 b = x1 := ⟨_, rfl⟩
  rw [h1] at a1 a2 b1 b2 c1 c2 d
  obtain ⟨x2, h2⟩ : ∃ x2, o2 x1 = x2 := ⟨_, rfl⟩
  rw [h2] at b1 b2 c1 c2 d
  obtain ⟨x3, h3⟩ : ∃ x3, o3 x2 = x3 := ⟨_, rfl⟩
  rw [h3] at c1 c2 d
  obtain ⟨y, hy⟩ : ∃ y, pc b = y := ⟨_, rfl⟩
  rw [hy] at d ⊢
  unfold o1 at h1; unfold o2 at h2; unfold o3 at h3; unfold o7 at d
  have e1 : x3 / 256 = 0 := by omega
  have e2 : x3 / 65536 = 0 := by omega
  have e3 : x3 / 4294967296 = 0 := by omega
  clear hy
  go_enter Try.func104, Try.ntmps104
  go_wp2_with fail
  go_ret
  exact ⟨rfl, rfl⟩
theorem oneU_any (b : Nat) (w : World) (hb : b < 128)  :
    Calls Try.prog 101 #[.int .u64 b] w fun e w' => e = .returned (.int .i64 (pc b)) ∧ w' = w := by
  obtain ⟨y, hy⟩ : ∃ y, pc b = y := ⟨_, rfl⟩
  have HY := Lib.hid hy
  rw [hy]
  clear hy
  go_enter Try.func101, Try.ntmps101
  go_wp2_with fail
  refine (one_any b w hb).mono ?_
  rintro e w1 ⟨rfl, rfl⟩
  rw [HY.out]
  go_wp2_with fail
  go_ret
  exact ⟨rfl, rfl⟩

/-- Whether a bead lies there. -/
def hasBP (b i : Nat) : Bool := b.testBit i
theorem has_in : ∀ b : Nat, b < 128 → ∀ i : Nat, i < 7 → (bits BinOp.and IntKind.u64 ((b : Int) / 2 ^ i) 1 == 1) = hasBP b i := by decide +kernel
theorem has_any (b i : Nat) (w : World) (hb : b < 128) (hi : i < 7) :
    Calls Try.prog 93 #[.int .u64 b, .int .i64 i] w fun e w' => e = .returned (.bool (hasBP b i)) ∧ w' = w := by
  have h := has_in b hb i hi
  obtain ⟨y, hy⟩ : ∃ y, hasBP b i = y := ⟨_, rfl⟩
  rw [hy] at h ⊢
  clear hy
  go_enter Try.func93, Try.ntmps93
  go_wp2_with fail
  go_ret
  exact ⟨rfl, rfl⟩

/-- The beads between. -/
def btw (b lo hh : Nat) : Nat := (b &&& (2 ^ hh - 1)) >>> lo
def sgB (b lo hh : Nat) : Int := if pc (btw b lo hh) % 2 = 0 then 1 else -1
theorem btw_in : ∀ b : Nat, b < 128 → ∀ lo : Nat, lo < 7 → ∀ hh : Nat, hh < 7 → bits BinOp.and IntKind.u64 (b : Int) (IntKind.u64.wrap (IntKind.u64.wrap (2 ^ hh) - 1)) / 2 ^ lo = (btw b lo hh : Nat) ∧ btw b lo hh < 128 := by decide +kernel
theorem pc_in : ∀ b : Nat, b < 128 → 0 ≤ pc b ∧ pc b ≤ 7 := by decide +kernel
theorem sign_any (b lo hh : Nat) (w : World) (hb : b < 128) (hl : lo < 7) (hi : hh < 7) :
    Calls Try.prog 94 #[.int .u64 b, .int .i64 lo, .int .i64 hh] w fun e w' => e = .returned (.int .i64 (sgB b lo hh)) ∧ w' = w := by
  obtain ⟨h1, h2⟩ := btw_in b hb lo hl hh hi
  obtain ⟨m, hm⟩ : ∃ m, btw b lo hh = m := ⟨_, rfl⟩
  obtain ⟨p1, p2⟩ := pc_in _ h2
  rw [hm] at h1 h2 p1 p2
  obtain ⟨y, hy⟩ : ∃ y, pc m = y := ⟨_, rfl⟩
  rw [hy] at p1 p2
  have HS : Hid (sgB b lo hh = if y % 2 = 0 then 1 else -1) := by rw [Hid, sgB, hm, hy]
  have HY := Lib.hid hy; have HM := Lib.hid hm
  clear hm hy
  by_cases h0 : y % 2 = 0
  · have HE : Hid (sgB b lo hh = 1) := by rw [Hid, HS.out, if_pos h0]
    have hq : (y % 2 == 0) = true := by simpa using h0
    clear h0 HS
    go_enter Try.func94, Try.ntmps94
    go_wp2_with fail
    refine (oneU_any m w h2).mono ?_
    rintro e w1 ⟨rfl, rfl⟩
    rw [HY.out]
    go_wp2_with fail
    go_ret
    exact ⟨ret_int HE.out.symm, rfl⟩
  · have HE : Hid (sgB b lo hh = -1) := by rw [Hid, HS.out, if_neg h0]
    have hq : (y % 2 == 0) = false := by simpa using h0
    clear h0 HS
    go_enter Try.func94, Try.ntmps94
    go_wp2_with fail
    refine (oneU_any m w h2).mono ?_
    rintro e w1 ⟨rfl, rfl⟩
    rw [HY.out]
    go_wp2_with fail
    go_ret
    exact ⟨ret_int HE.out.symm, rfl⟩

/-- The beads of a partition, as bits. -/
def bdN (xs : List Int) : Nat → Nat
  | 0 => 0
  | k + 1 => bdN xs k ||| 2 ^ (gn xs k + xs.length - 1 - k)
def bd (xs : List Int) : Nat := bdN xs xs.length
theorem bd_in : ∀ xs ∈ allPts, ∀ k, k < xs.length → gn xs k + xs.length - 1 - k < 7 ∧ bdN xs k < 128 ∧ bdN xs (k + 1) < 128 ∧ (gn xs k : Int) + xs.length - 1 - k = ((gn xs k + xs.length - 1 - k : Nat) : Int) ∧ bits BinOp.or IntKind.u64 (bdN xs k : Int) (IntKind.u64.wrap (2 ^ (gn xs k + xs.length - 1 - k))) = (bdN xs (k + 1) : Int) := by decide +kernel
set_option maxHeartbeats 800000 in
theorem beads_any (A : Option Addr) (n c : Nat) (xs : List Int) (w : World) (h : Rd w A n xs) (hp : Pt xs) :
    Calls Try.prog 77 #[.slice A n c] w fun e w' => e = .returned (.int .u64 (bd xs)) ∧ w' = w := by
  have hn6 : n ≤ 6 := by have := hp.len; rw [h.1] at this; exact this
  have HA := Lib.hid (bd_in xs hp.all)
  have H := Lib.hid h; have HP := Lib.hid hp; have Hx := Lib.hid h.1; clear h hp
  go_enter Try.func77, Try.ntmps77
  go_wp2_with fail
  go_loop [3, 8] (fun b i => ∃ (k m : Nat), k ≤ n ∧ b = .int .u64 m ∧ i = .int .i64 k ∧ Hid (m = bdN xs k)) (fun _ i => n - (intOf i).toNat)
  case atStart => exact ⟨0, 0, Nat.zero_le _, rfl, rfl, rfl⟩
  case round =>
    obtain ⟨k, m, hk, rfl, rfl, hM⟩ := hrel
    by_cases hlt : k < n
    · obtain ⟨ad, rfl, hc⟩ := H.out.at_ hlt
      obtain ⟨x, hx, hx1, hx6, hgn⟩ := HP.out.nat (j := k) (by rw [Hx.out]; exact hlt)
      rw [hx] at hc
      obtain ⟨a1, a2, a3, a4, a5⟩ := HA.out k (by rw [Hx.out]; exact hlt)
      rw [hgn, Hx.out] at a1 a4 a5
      rw [← hM.out] at a2 a5
      obtain ⟨m', hm'⟩ : ∃ m', bdN xs (k + 1) = m' := ⟨_, rfl⟩
      rw [hm'] at a3 a5
      obtain ⟨s, hs⟩ : ∃ s, x + n - 1 - k = s := ⟨_, rfl⟩
      rw [hs] at a1 a4 a5
      have g1 : IntKind.i64.wrap ((x : Int) + (n : Int)) = (x : Int) + (n : Int) := IntWalk.i64_in _ (by omega)
      obtain ⟨b1, hb1⟩ : ∃ b1, (x : Int) + (n : Int) - 1 = b1 := ⟨_, rfl⟩
      have g2 : IntKind.i64.wrap ((x : Int) + (n : Int) - 1) = b1 := by rw [hb1]; exact IntWalk.i64_in _ (by omega)
      have g3 : IntKind.i64.wrap (b1 - (k : Int)) = (s : Int) := by rw [← hb1, a4]; exact IntWalk.i64_in _ (by omega)
      have HM' := Lib.hid hm'
      clear hs hb1 hm' a4 hx hgn
      go_wp2_with fail
      go_round
      case rel => exact ⟨k + 1, m', by omega, rfl, by go_num, HM'.out.symm⟩
      case measure => simp [intOf]; omega
    · obtain rfl : k = n := by omega
      go_wp2_with fail
      go_ret
      exact ⟨ret_u64 (by rw [bd, Hx.out, hM.out]), rfl⟩
end Go.Proofs.Ytkbdbkoeahihiaa
