/-
  The permutation that moves nothing, the program's.
-/
import Derived.Test.YtlnegaenjcekcaaKit
namespace Go.Proofs.Ytlnegaenjcekcaa
open Go.RowKit

set_option maxHeartbeats 800000 in
theorem stillPerm_any (n : Nat) (w : World) (hn : n ≤ 1048576) :
    Calls Try.prog 67 #[.int .i64 n] w fun e w' => ∃ v, e = .returned v ∧ Own w' w.heap.size v (marks 0 n) ∧ Below w.heap.size w w' := by
  obtain ⟨i0, hinf, hz0, hz1, hz2⟩ := info_parts info_int
  go_enter Try.func67, Try.ntmps67
  go_wp2_with (at_make; refine wpList_make_full _ rfl _ _ 72 rfl w.heap.size 3 i0 (.int .i64 0) 1 Try.underlying72 hinf hz0 hz1 .i64 .i64 _ _ n rfl rfl rfl rfl (by rw [hz2]; omega) (by unfold maxLen; omega) (Nat.le_refl _) ?_; intro w1 hown1 hgrow1)
  have hb1 := Lib.hid (below_of_grown hgrow1 (Nat.le_refl _) (fun k hk => by cases hk))
  have ho1 := Lib.hid (Own.made hown1)
  clear hown1 hgrow1 hz0 hz1 hz2 hinf
  go_loopw [9] (fun i wr => ∃ (k : Nat) (zs : List Int), k ≤ n ∧ i = .int .i64 k ∧ Hid (Own wr w.heap.size (.slice (some ⟨w.heap.size, 0, none⟩) n n) zs) ∧ Hid (zs.length = n) ∧ Hid (Below w.heap.size w wr) ∧ Hid (∀ j, j < k → gi zs j = j)) (fun i _ => n - (intOf i).toNat)
  case atStart => exact ⟨0, _, Nat.zero_le _, rfl, ho1, by simp [Hid], hb1, fun j hj => absurd hj (by omega)⟩
  case round =>
    obtain ⟨k, zs, hk, rfl, ho, hzl, hb, hall⟩ := hrel
    by_cases hlt : k < n
    · obtain ⟨g, hg, _, hc3, hf3⟩ := ho.out.cellAt hzl.out hlt
      simp only [Option.some.injEq, Addr.mk.injEq, and_true] at hg
      subst hg
      have HS := Lib.hid (ho.out.stored hzl.out k (k : Int))
      go_wp2_with fail
      go_roundw
      case rel =>
        refine ⟨k + 1, _, by omega, by go_num, HS.out.1, by simpa [Hid] using hzl.out, hb.out.setCell (Nat.le_refl _) _, fun j hj => ?_⟩
        rw [gi_set _ _ _ _ (by rw [hzl.out]; exact hlt)]
        by_cases e : j = k
        · rw [if_pos e, e]
        · rw [if_neg e]; exact hall.out j (by omega)
      case measure => simp [intOf]; omega
    · obtain rfl : k = n := by omega
      go_wp2_with fail
      go_ret
      refine ⟨_, rfl, ?_, hb.out⟩
      have e : zs = marks 0 k := eq_of_gi (by rw [hzl.out, marks_len]) (fun j hj => by rw [hzl.out] at hj; rw [hall.out j hj, gi_marks hj]; omega)
      rw [← e]; exact ho.out

end Go.Proofs.Ytlnegaenjcekcaa
