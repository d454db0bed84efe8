/-
  PermBack and PermConj, the model's and the program's.
-/
import Derived.Test.YtcenffndclpjoaaMul
namespace Go.Proofs.Ytcenffndclpjoaa
open Go.RowKit

set_option maxHeartbeats 800000 in
theorem back_any (A : Option Addr) (n c : Nat) (xs : List Int) (w : World) (h : Rd w A n xs) (hn : n ≤ 1048576) (hv : Vld xs) :
    Calls Try.prog 44 #[.slice A n c] w fun e w' => ∃ v, e = .returned v ∧ Own w' w.heap.size v (backL xs) ∧ Below w.heap.size w w' := by
  obtain ⟨i0, hinf, hz0, hz1, hz2⟩ := info_parts info_int
  have H := Lib.hid h; have HV := Lib.hid hv; have HI := Lib.hid (hv.into (m := n) h.1)
  have Hx := Lib.hid h.1; clear h hv
  go_enter Try.func44, Try.ntmps44
  go_wp2_with (at_make; refine wpList_make_full _ rfl _ _ 64 rfl w.heap.size 3 i0 (.int .i64 0) 1 Try.underlying64 hinf hz0 hz1 .i64 .i64 _ _ n rfl rfl rfl rfl (by rw [hz2]; omega) (by unfold maxLen; omega) (Nat.le_refl _) ?_; intro w1 hown1 hgrow1)
  have hb1 := Lib.hid (below_of_grown hgrow1 (Nat.le_refl _) (fun k hk => by cases hk))
  have ho1 := Lib.hid (Own.made hown1)
  clear hown1 hgrow1 hz0 hz1 hz2 hinf
  go_loopw [11] (fun i wr => ∃ (k : Nat) (zs : List Int), k ≤ n ∧ i = .int .i64 k ∧ Hid (Own wr w.heap.size (.slice (some ⟨w.heap.size, 0, none⟩) n n) zs) ∧ Hid (zs.length = n) ∧ Hid (Below w.heap.size w wr) ∧ Hid (∀ j, j < k → gi zs (gn xs j) = (j : Int))) (fun i _ => n - (intOf i).toNat)
  case atStart => exact ⟨0, _, Nat.zero_le _, rfl, ho1, by simp [Hid], hb1, fun j hj => absurd hj (by omega)⟩
  case round =>
    obtain ⟨k, zs, hk, rfl, ho, hzl, hb, hall⟩ := hrel
    by_cases hlt : k < n
    · obtain ⟨ad, rfl, hc⟩ := (H.out.below hb.out).at_ hlt
      obtain ⟨x, hx, hxm, hgn⟩ := HI.out.nat (j := k) (by rw [Hx.out]; exact hlt)
      rw [hx] at hc
      have HX := Lib.hid hx; have HG := Lib.hid hgn; clear hx hgn
      obtain ⟨g, hg, _, hc3, hf3⟩ := ho.out.cellAt hzl.out hxm
      simp only [Option.some.injEq, Addr.mk.injEq, and_true] at hg
      subst hg
      have HS := Lib.hid (ho.out.stored hzl.out x (k : Int))
      go_wp2
      go_roundw
      case rel =>
        refine ⟨k + 1, _, by omega, by go_num, HS.out.1, by simpa [Hid] using hzl.out, hb.out.setCell (Nat.le_refl _) _, fun j hj => ?_⟩
        rw [gi_set _ _ _ _ (by rw [hzl.out]; exact hxm)]
        by_cases e : j = k
        · rw [if_pos (by rw [e, HG.out]), e]
        · rw [if_neg (fun e' => e (HV.out.inj (by rw [Hx.out]; omega) (by rw [Hx.out]; exact hlt) (by rw [e', HG.out])))]; exact hall.out j (by omega)
      case measure => simp [intOf]; omega
    · go_wp2
      go_ret
      refine ⟨_, rfl, ?_, hb.out⟩
      have e : zs = backL xs := HV.out.backL_eq (by rw [hzl.out, Hx.out]) (fun j hj => hall.out j (by rw [Hx.out] at hj; omega))
      rw [← e]; exact ho.out

end Go.Proofs.Ytcenffndclpjoaa
