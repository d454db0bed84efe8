/-
  The model's PermPower.
-/
import Derived.Test.YtcenffndclpjoaaOrb
import Derived.Test.YtcenffndclpjoaaBack
namespace Go.Proofs.Ytcenffndclpjoaa
open Go.RowKit

def sameL (n : Nat) : List Int := tab n fun i => (i : Int)
theorem iterL_zero (p : List Int) : iterL p 0 = sameL p.length := rfl

set_option maxHeartbeats 800000 in
theorem l1Same_pow (n : Nat) (w : World) (hn : n ≤ 1048576) :
    Calls Try.prog 79 #[.int .i64 n] w fun e w' => ∃ v, e = .returned v ∧ Own w' w.heap.size v (sameL n) ∧ Below w.heap.size w w' := by
  obtain ⟨i0, hinf, hz0, hz1, hz2⟩ := info_parts info_int
  go_enter Try.func79, Try.ntmps79
  go_wp2_with fail
  go_loopw [3, 4] (fun v' i wr => ∃ (v : Value) (k : Nat), v = v' ∧ k ≤ n ∧ i = .int .i64 k ∧ Hid (wr.ownsRow w.heap.size 3 1 v k (ints (sameL k))) ∧ Hid (Below w.heap.size w wr)) (fun _ i _ => n - (intOf i).toNat)
  case atStart => exact ⟨_, 0, rfl, Nat.zero_le _, rfl, Own.empty (Nat.le_refl _), (Below.refl _ _).alloc (Nat.le_refl _) _⟩
  case round =>
    obtain ⟨v, k, rfl, hk, rfl, ho, hb⟩ := hrel
    have hbs := hb.out.size
    by_cases hlt : k < n
    · go_wp2_with (at_builtin; refine wpList_append_own _ rfl _ _ 23 rfl w.heap.size 3 i0 (.int .i64 0) 1 8 Try.underlying23 hinf hz0 hz1 hz2 rfl (by decide) _ _ _ rfl (ho.out.alloc _) ⟨wr.heap.size, 0, none⟩ 1 1 [.int .i64 (k : Int)] rfl rfl (cell_one_new _ _ _) (by intro u hu; simp at hu; subst hu; rfl) (by unfold maxLen; omega) (by omega) (by simp; omega) ?_; intro v1 w1 hown1 hgrow1 _)
      have HO := Lib.hid hown1; have HGR := Lib.hid hgrow1; clear hown1 hgrow1
      go_wp2
      go_roundw
      case rel =>
        refine ⟨_, k + 1, rfl, by omega, by go_num, ?_, ?_⟩
        · have := HO.out
          have e : sameL (k + 1) = sameL k ++ [(k : Int)] := by simp [sameL, tab, List.range_succ]
          rw [Hid, e, ints, List.map_append]
          exact this
        · exact (hb.out.alloc hbs _).grown HGR.out (by simp; omega) (fun j hj => (ho.out.lt j hj).1)
      case measure => simp [intOf]; omega
    · have hkn : k = n := by omega
      subst hkn
      go_wp2
      go_ret
      refine ⟨_, rfl, ?_, hb.out⟩
      unfold Own
      rw [sameL, tab_len]
      exact ho.out

end Go.Proofs.Ytcenffndclpjoaa
