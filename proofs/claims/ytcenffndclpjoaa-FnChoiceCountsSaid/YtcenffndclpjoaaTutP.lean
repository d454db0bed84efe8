/-
  Chapter 3's flip: the model's l3Flip, its list known whole.
  Tutte's quadrangulation: the program's.
-/
import Derived.Test.YtcenffndclpjoaaSeen
import Derived.Test.YtcenffndclpjoaaDual
import Derived.Test.YtcenffndclpjoaaBack
namespace Go.Proofs.Ytcenffndclpjoaa
open Go.RowKit

/-- Each dart 2k paired with 2k + 1. -/
def flipL : Nat → List Int
  | 0 => []
  | k + 1 => flipL k ++ [2 * (k : Int) + 1, 2 * (k : Int)]
theorem flipL_len : ∀ n, (flipL n).length = 2 * n
  | 0 => rfl
  | k + 1 => by rw [flipL, List.length_append, flipL_len k]; simp; omega

theorem flip_news (w : World) (u u' : Value) (t : TypeId) : ∀ (j : Nat) (v : Value), [u, u'][j]? = some v → (w.alloc (.cells #[u, u'] t)).cell? ((⟨w.heap.size, 0, none⟩ : Addr).add j) = some v := by
  intro j v hj
  have e : (⟨w.heap.size, 0, none⟩ : Addr).add j = ⟨w.heap.size, j, none⟩ := by unfold Addr.add; split <;> simp_all
  rw [e, cell_of_row _ w.heap.size j _ _ (0, 0) (heap_alloc_new w _)]
  simpa using hj

end Go.Proofs.Ytcenffndclpjoaa

namespace Go.Proofs.Ytcenffndclpjoaa
open Go.RowKit

set_option maxHeartbeats 800000 in
theorem still_new (n : Nat) (w : World) (hn : n ≤ 1048576) :
    Calls Try.prog 82 #[.int .i64 n] w fun e w' => ∃ v, e = .returned v ∧ Own w' w.heap.size v (marks 0 n) ∧ Below w.heap.size w w' := by
  obtain ⟨i0, hinf, hz0, hz1, hz2⟩ := info_parts info_int
  go_enter Try.func82, Try.ntmps82
  go_wp2_with (at_make; refine wpList_make_full _ rfl _ _ 64 rfl w.heap.size 3 i0 (.int .i64 0) 1 Try.underlying64 hinf hz0 hz1 .i64 .i64 _ _ n rfl rfl rfl rfl (by rw [hz2]; omega) (by unfold maxLen; omega) (Nat.le_refl _) ?_; intro w1 hown1 hgrow1)
  have hb1 := Lib.hid (below_of_grown hgrow1 (Nat.le_refl _) (fun k hk => by cases hk))
  have ho1 := Lib.hid (Own.made hown1)
  clear hown1 hgrow1 hz0 hz1 hz2 hinf
  go_loopw [9] (fun i wr => ∃ (k : Nat) (zs : List Int), k ≤ n ∧ i = .int .i64 k ∧ Hid (Own wr w.heap.size (.slice (some ⟨w.heap.size, 0, none⟩) n n) zs) ∧ Hid (zs.length = n) ∧ Hid (Below w.heap.size w wr) ∧ Hid (∀ j, j < k → gi zs j = j)) (fun i _ => n - (intOf i).toNat)
  case atStart => exact ⟨0, _, Nat.zero_le _, rfl, ho1, by simp [Hid], hb1, fun j hj => absurd hj (by omega)⟩
  case round =>
    obtain ⟨k, zs, hk, rfl, ho, hzl, hb, hall⟩ := hrel
    by_cases hlt : k < n
    · obtain ⟨g, hg, _, hc3, hf3⟩ := ho.out.cellAt hzl.out hlt
      simp only [Option.some.injEq, Addr.mk.injEq, and_true] at hg
      subst hg
      have HS := Lib.hid (ho.out.stored hzl.out k (k : Int))
      go_wp2_with fail
      go_roundw
      case rel =>
        refine ⟨k + 1, _, by omega, by go_num, HS.out.1, by simpa [Hid] using hzl.out, hb.out.setCell (Nat.le_refl _) _, fun j hj => ?_⟩
        rw [gi_set _ _ _ _ (by rw [hzl.out]; exact hlt)]
        by_cases e : j = k
        · rw [if_pos e, e]
        · rw [if_neg e]; exact hall.out j (by omega)
      case measure => simp [intOf]; omega
    · obtain rfl : k = n := by omega
      go_wp2_with fail
      go_ret
      refine ⟨_, rfl, ?_, hb.out⟩
      have e : zs = marks 0 k := eq_of_gi (by rw [hzl.out, marks_len]) (fun j hj => by rw [hzl.out] at hj; rw [hall.out j hj, gi_marks hj]; omega)
      rw [← e]; exact ho.out

def sbsL (n : Nat) : List Int := tab n fun i => bits .xor .i64 (i : Int) 1
theorem sbs_flip : ∀ k : Nat, k < 13 → sbsL (2 * k) = flipL k := by decide +kernel
/-- The darts of the quadrangulation: what they turn to. -/
def tqL (t a : List Int) : Nat → List Int
  | 0 => []
  | k + 1 => tqL t a k ++ [2 * gi t k, 2 * gi a k + 1]
theorem tqL_len (t a : List Int) : ∀ k, (tqL t a k).length = 2 * k
  | 0 => rfl
  | k + 1 => by rw [tqL, List.length_append, tqL_len t a k]; simp; omega
theorem gi_tqL (t a : List Int) : ∀ (k d : Nat), d < k → gi (tqL t a k) (2 * d) = 2 * gi t d ∧ gi (tqL t a k) (2 * d + 1) = 2 * gi a d + 1
  | 0, d, h => absurd h (by omega)
  | k + 1, d, h => by
    have hl := tqL_len t a k
    by_cases e : d = k
    · subst e
      constructor
      · rw [tqL, gi, List.getD, List.getElem?_append_right (by omega), hl]; simp
      · rw [tqL, gi, List.getD, List.getElem?_append_right (by omega), hl]; simp
    · obtain ⟨h1, h2⟩ := gi_tqL t a k d (by omega)
      constructor
      · rw [← h1, tqL, gi, List.getD, List.getElem?_append_left (by omega)]; rfl
      · rw [← h2, tqL, gi, List.getD, List.getElem?_append_left (by omega)]; rfl

def tqT (t f : List Int) : List Int := tqL t (backL (mulL f t)) t.length
end Go.Proofs.Ytcenffndclpjoaa
