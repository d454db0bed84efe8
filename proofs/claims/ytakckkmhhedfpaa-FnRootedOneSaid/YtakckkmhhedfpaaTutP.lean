/-
  Chapter 3's flip: the model's l3Flip, its list known whole.
  Tutte's quadrangulation: the program's.
-/
import Derived.Test.YtakckkmhhedfpaaSeen
import Derived.Test.YtakckkmhhedfpaaDual
import Derived.Test.YtakckkmhhedfpaaBack
namespace Go.Proofs.Ytakckkmhhedfpaa
open Go.RowKit

/-- Each dart 2k paired with 2k + 1. -/
def flipL : Nat → List Int
  | 0 => []
  | k + 1 => flipL k ++ [2 * (k : Int) + 1, 2 * (k : Int)]
theorem flipL_len : ∀ n, (flipL n).length = 2 * n
  | 0 => rfl
  | k + 1 => by rw [flipL, List.length_append, flipL_len k]; simp; omega

theorem flip_news (w : World) (u u' : Value) (t : TypeId) : ∀ (j : Nat) (v : Value), [u, u'][j]? = some v → (w.alloc (.cells #[u, u'] t)).cell? ((⟨w.heap.size, 0, none⟩ : Addr).add j) = some v := by
  intro j v hj
  have e : (⟨w.heap.size, 0, none⟩ : Addr).add j = ⟨w.heap.size, j, none⟩ := by unfold Addr.add; split <;> simp_all
  rw [e, cell_of_row _ w.heap.size j _ _ (0, 0) (heap_alloc_new w _)]
  simpa using hj

set_option maxHeartbeats 1600000 in
theorem l3Flip_any (n : Nat) (w : World) (hn : n ≤ 1000) :
    Calls Try.prog 62 #[.int .i64 n] w fun e w' => ∃ v, e = .returned v ∧ Own w' w.heap.size v (flipL n) ∧ Below w.heap.size w w' := by
  obtain ⟨i0, hinf, hz0, hz1, hz2⟩ := info_parts info_int
  go_enter Try.func62, Try.ntmps62
  go_wp2_with fail
  go_loopw [3, 4] (fun v' i wr => ∃ (v : Value) (k : Nat), v = v' ∧ k ≤ n ∧ i = .int .i64 (k : Int) ∧ Hid (wr.ownsRow w.heap.size 3 1 v (2 * k) (ints (flipL k))) ∧ Hid (Below w.heap.size w wr)) (fun _ i _ => n - (intOf i).toNat)
  case atStart => exact ⟨_, 0, rfl, Nat.zero_le _, rfl, Own.empty (Nat.le_refl _), (Below.refl _ _).alloc (Nat.le_refl _) _⟩
  case round =>
    obtain ⟨v, k, rfl, hk, rfl, ho, hb⟩ := hrel
    have hbs := hb.out.size
    by_cases hlt : k < n
    · have hnews := flip_news wr (.int .i64 (2 * (k : Int) + 1)) (.int .i64 (2 * (k : Int))) 3
      have HNW := Lib.hid hnews; clear hnews
      go_wp2_with (at_builtin; refine wpList_append_own _ rfl _ _ 33 rfl w.heap.size 3 i0 (.int .i64 0) 1 8 Try.underlying33 hinf hz0 hz1 hz2 rfl (by decide) _ _ _ rfl (ho.out.alloc _) ⟨wr.heap.size, 0, none⟩ 2 2 [.int .i64 (2 * (k : Int) + 1), .int .i64 (2 * (k : Int))] rfl rfl HNW.out (by intro u hu; simp at hu; rcases hu with rfl | rfl <;> rfl) (by unfold maxLen; omega) (by omega) (by simp; omega) ?_; intro v1 w1 hown1 hgrow1 _)
      have HO := Lib.hid hown1; have HGR := Lib.hid hgrow1; clear hown1 hgrow1
      go_wp2
      go_roundw
      case rel =>
        refine ⟨_, k + 1, rfl, by omega, by go_num, ?_, (hb.out.alloc hbs _).grown HGR.out (by simp; omega) (fun j hj => (ho.out.lt j hj).1)⟩
        have := HO.out
        rw [Hid, flipL, ints, List.map_append, show 2 * (k + 1) = 2 * k + 2 by omega]
        exact this
      case measure => simp [intOf]; omega
    · have hkn : k = n := by omega
      subst hkn
      go_wp2
      go_ret
      refine ⟨_, rfl, ?_, hb.out⟩
      unfold Own
      rw [flipL_len]
      exact ho.out

end Go.Proofs.Ytakckkmhhedfpaa

namespace Go.Proofs.Ytakckkmhhedfpaa
open Go.RowKit

set_option maxHeartbeats 800000 in
theorem still_new (n : Nat) (w : World) (hn : n ≤ 1048576) :
    Calls Try.prog 95 #[.int .i64 n] w fun e w' => ∃ v, e = .returned v ∧ Own w' w.heap.size v (marks 0 n) ∧ Below w.heap.size w w' := by
  obtain ⟨i0, hinf, hz0, hz1, hz2⟩ := info_parts info_int
  go_enter Try.func95, Try.ntmps95
  go_wp2_with (at_make; refine wpList_make_full _ rfl _ _ 72 rfl w.heap.size 3 i0 (.int .i64 0) 1 Try.underlying72 hinf hz0 hz1 .i64 .i64 _ _ n rfl rfl rfl rfl (by rw [hz2]; omega) (by unfold maxLen; omega) (Nat.le_refl _) ?_; intro w1 hown1 hgrow1)
  have hb1 := Lib.hid (below_of_grown hgrow1 (Nat.le_refl _) (fun k hk => by cases hk))
  have ho1 := Lib.hid (Own.made hown1)
  clear hown1 hgrow1 hz0 hz1 hz2 hinf
  go_loopw [9] (fun i wr => ∃ (k : Nat) (zs : List Int), k ≤ n ∧ i = .int .i64 k ∧ Hid (Own wr w.heap.size (.slice (some ⟨w.heap.size, 0, none⟩) n n) zs) ∧ Hid (zs.length = n) ∧ Hid (Below w.heap.size w wr) ∧ Hid (∀ j, j < k → gi zs j = j)) (fun i _ => n - (intOf i).toNat)
  case atStart => exact ⟨0, _, Nat.zero_le _, rfl, ho1, by simp [Hid], hb1, fun j hj => absurd hj (by omega)⟩
  case round =>
    obtain ⟨k, zs, hk, rfl, ho, hzl, hb, hall⟩ := hrel
    by_cases hlt : k < n
    · obtain ⟨g, hg, _, hc3, hf3⟩ := ho.out.cellAt hzl.out hlt
      simp only [Option.some.injEq, Addr.mk.injEq, and_true] at hg
      subst hg
      have HS := Lib.hid (ho.out.stored hzl.out k (k : Int))
      go_wp2_with fail
      go_roundw
      case rel =>
        refine ⟨k + 1, _, by omega, by go_num, HS.out.1, by simpa [Hid] using hzl.out, hb.out.setCell (Nat.le_refl _) _, fun j hj => ?_⟩
        rw [gi_set _ _ _ _ (by rw [hzl.out]; exact hlt)]
        by_cases e : j = k
        · rw [if_pos e, e]
        · rw [if_neg e]; exact hall.out j (by omega)
      case measure => simp [intOf]; omega
    · obtain rfl : k = n := by omega
      go_wp2_with fail
      go_ret
      refine ⟨_, rfl, ?_, hb.out⟩
      have e : zs = marks 0 k := eq_of_gi (by rw [hzl.out, marks_len]) (fun j hj => by rw [hzl.out] at hj; rw [hall.out j hj, gi_marks hj]; omega)
      rw [← e]; exact ho.out

def sbsL (n : Nat) : List Int := tab n fun i => bits .xor .i64 (i : Int) 1
theorem sbs_flip : ∀ k : Nat, k < 13 → sbsL (2 * k) = flipL k := by decide +kernel
set_option maxHeartbeats 800000 in
theorem side_any (n : Nat) (w : World) (hn : n ≤ 1048576) :
    Calls Try.prog 96 #[.int .i64 n] w fun e w' => ∃ v, e = .returned v ∧ Own w' w.heap.size v (sbsL n) ∧ Below w.heap.size w w' := by
  go_enter Try.func96, Try.ntmps96
  go_wp2_with fail
  refine (still_new n w hn).mono ?_
  rintro e w1 ⟨v, rfl, o, b⟩
  obtain ⟨A, c, rfl, -, -⟩ := o.form' (marks_len _ _)
  have HO := Lib.hid o; have HB := Lib.hid b; clear o b
  by_cases h0 : 0 < n
  · obtain ⟨g, rfl, hg, -, -⟩ := HO.out.cellAt (marks_len _ _) (k := 0) h0
    have hgw : w.heap.size ≤ g := (HO.out.lt g rfl).1
    go_wp2_with fail
    go_loopw [9] (fun i wr => ∃ (k : Nat) (zs : List Int), k ≤ n ∧ i = .int .i64 k ∧ Hid (Own wr w.heap.size (.slice (some ⟨g, 0, none⟩) n c) zs) ∧ Hid (zs.length = n) ∧ Hid (Below w.heap.size w wr) ∧ Hid (∀ j, j < k → gi zs j = bits .xor .i64 (j : Int) 1)) (fun i _ => n - (intOf i).toNat)
    case atStart => exact ⟨0, _, Nat.zero_le _, rfl, HO, marks_len _ _, HB, fun j hj => absurd hj (by omega)⟩
    case round =>
      obtain ⟨k, zs, hk, rfl, ho, hzl, hb, hall⟩ := hrel
      by_cases hlt : k < n
      · obtain ⟨g', hg, _, hc3, hf3⟩ := ho.out.cellAt hzl.out hlt
        simp only [Option.some.injEq, Addr.mk.injEq, and_true] at hg
        subst hg
        obtain ⟨x, hx⟩ : ∃ x, bits .xor .i64 (k : Int) 1 = x := ⟨_, rfl⟩
        have HS := Lib.hid (ho.out.stored hzl.out k x)
        go_wp2_with fail
        go_roundw
        case rel =>
          refine ⟨k + 1, _, by omega, by go_num, HS.out.1, by simpa [Hid] using hzl.out, hb.out.setCell hgw _, fun j hj => ?_⟩
          rw [gi_set _ _ _ _ (by rw [hzl.out]; exact hlt)]
          by_cases e : j = k
          · rw [if_pos e, e, hx]
          · rw [if_neg e]; exact hall.out j (by omega)
        case measure => simp [intOf]; omega
      · obtain rfl : k = n := by omega
        go_wp2_with fail
        go_ret
        refine ⟨_, rfl, ?_, hb.out⟩
        have e : zs = sbsL k := eq_of_gi (by rw [hzl.out, sbsL, tab_len]) (fun j hj => by rw [hzl.out] at hj; rw [hall.out j hj, sbsL, gi_tab hj])
        rw [← e]; exact ho.out
  · obtain rfl : n = 0 := by omega
    go_wp2_with fail
    go_loopw [9] (fun i wr => i = .int .i64 (0 : Nat) ∧ Hid (Own wr w.heap.size (.slice A 0 c) []) ∧ Hid (Below w.heap.size w wr)) (fun _ _ => 0)
    case atStart => exact ⟨rfl, HO, HB⟩
    case round =>
      obtain ⟨rfl, ho, hb⟩ := hrel
      go_wp2_with fail
      go_ret
      exact ⟨_, rfl, ho.out, hb.out⟩

/-- The darts of the quadrangulation: what they turn to. -/
def tqL (t a : List Int) : Nat → List Int
  | 0 => []
  | k + 1 => tqL t a k ++ [2 * gi t k, 2 * gi a k + 1]
theorem tqL_len (t a : List Int) : ∀ k, (tqL t a k).length = 2 * k
  | 0 => rfl
  | k + 1 => by rw [tqL, List.length_append, tqL_len t a k]; simp; omega
theorem gi_tqL (t a : List Int) : ∀ (k d : Nat), d < k → gi (tqL t a k) (2 * d) = 2 * gi t d ∧ gi (tqL t a k) (2 * d + 1) = 2 * gi a d + 1
  | 0, d, h => absurd h (by omega)
  | k + 1, d, h => by
    have hl := tqL_len t a k
    by_cases e : d = k
    · subst e
      constructor
      · rw [tqL, gi, List.getD, List.getElem?_append_right (by omega), hl]; simp
      · rw [tqL, gi, List.getD, List.getElem?_append_right (by omega), hl]; simp
    · obtain ⟨h1, h2⟩ := gi_tqL t a k d (by omega)
      constructor
      · rw [← h1, tqL, gi, List.getD, List.getElem?_append_left (by omega)]; rfl
      · rw [← h2, tqL, gi, List.getD, List.getElem?_append_left (by omega)]; rfl

def tqT (t f : List Int) : List Int := tqL t (backL (mulL f t)) t.length
end Go.Proofs.Ytakckkmhhedfpaa
