/-
  Chapter 3's flip: the model's l3Flip, its list known whole.
-/
import Derived.Test.YtdbknfdpgooioaaSeen
namespace Go.Proofs.Ytdbknfdpgooioaa
open Go.RowKit

/-- Each dart 2k paired with 2k + 1. -/
def flipL : Nat → List Int
  | 0 => []
  | k + 1 => flipL k ++ [2 * (k : Int) + 1, 2 * (k : Int)]
theorem flipL_len : ∀ n, (flipL n).length = 2 * n
  | 0 => rfl
  | k + 1 => by rw [flipL, List.length_append, flipL_len k]; simp; omega

theorem flip_news (w : World) (u u' : Value) (t : TypeId) : ∀ (j : Nat) (v : Value), [u, u'][j]? = some v → (w.alloc (.cells #[u, u'] t)).cell? ((⟨w.heap.size, 0, none⟩ : Addr).add j) = some v := by
  intro j v hj
  have e : (⟨w.heap.size, 0, none⟩ : Addr).add j = ⟨w.heap.size, j, none⟩ := by unfold Addr.add; split <;> simp_all
  rw [e, cell_of_row _ w.heap.size j _ _ (0, 0) (heap_alloc_new w _)]
  simpa using hj

set_option maxHeartbeats 1600000 in
theorem l3Flip_any (n : Nat) (w : World) (hn : n ≤ 1000) :
    Calls Try.prog 36 #[.int .i64 n] w fun e w' => ∃ v, e = .returned v ∧ Own w' w.heap.size v (flipL n) ∧ Below w.heap.size w w' := by
  obtain ⟨i0, hinf, hz0, hz1, hz2⟩ := info_parts info_int
  go_enter Try.func36, Try.ntmps36
  go_wp2_with fail
  go_loopw [3, 4] (fun v' i wr => ∃ (v : Value) (k : Nat), v = v' ∧ k ≤ n ∧ i = .int .i64 (k : Int) ∧ Hid (wr.ownsRow w.heap.size 3 1 v (2 * k) (ints (flipL k))) ∧ Hid (Below w.heap.size w wr)) (fun _ i _ => n - (intOf i).toNat)
  case atStart => exact ⟨_, 0, rfl, Nat.zero_le _, rfl, Own.empty (Nat.le_refl _), (Below.refl _ _).alloc (Nat.le_refl _) _⟩
  case round =>
    obtain ⟨v, k, rfl, hk, rfl, ho, hb⟩ := hrel
    have hbs := hb.out.size
    by_cases hlt : k < n
    · have hnews := flip_news wr (.int .i64 (2 * (k : Int) + 1)) (.int .i64 (2 * (k : Int))) 3
      have HNW := Lib.hid hnews; clear hnews
      go_wp2_with (at_builtin; refine wpList_append_own _ rfl _ _ 22 rfl w.heap.size 3 i0 (.int .i64 0) 1 8 Try.underlying22 hinf hz0 hz1 hz2 rfl (by decide) _ _ _ rfl (ho.out.alloc _) ⟨wr.heap.size, 0, none⟩ 2 2 [.int .i64 (2 * (k : Int) + 1), .int .i64 (2 * (k : Int))] rfl rfl HNW.out (by intro u hu; simp at hu; rcases hu with rfl | rfl <;> rfl) (by unfold maxLen; omega) (by omega) (by simp; omega) ?_; intro v1 w1 hown1 hgrow1 _)
      have HO := Lib.hid hown1; have HGR := Lib.hid hgrow1; clear hown1 hgrow1
      go_wp2
      go_roundw
      case rel =>
        refine ⟨_, k + 1, rfl, by omega, by go_num, ?_, (hb.out.alloc hbs _).grown HGR.out (by simp; omega) (fun j hj => (ho.out.lt j hj).1)⟩
        have := HO.out
        rw [Hid, flipL, ints, List.map_append, show 2 * (k + 1) = 2 * k + 2 by omega]
        exact this
      case measure => simp [intOf]; omega
    · have hkn : k = n := by omega
      subst hkn
      go_wp2
      go_ret
      refine ⟨_, rfl, ?_, hb.out⟩
      unfold Own
      rw [flipL_len]
      exact ho.out

end Go.Proofs.Ytdbknfdpgooioaa
