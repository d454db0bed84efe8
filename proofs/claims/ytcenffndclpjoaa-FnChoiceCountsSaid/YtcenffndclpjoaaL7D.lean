/-
  The lesser dart of an edge, as the model finds it.
-/
import Derived.Test.YtcenffndclpjoaaRibN
namespace Go.Proofs.Ytcenffndclpjoaa
open Go.RowKit

/-! ### The model's -/
set_option maxHeartbeats 1600000 in
theorem l7Dart_any (A A' : Option Addr) (n n' c c' e d : Nat) (f : List Int) (w : World) (h' : Rd w A' n' f) (hf : Vld f) (hp : Paired f) (hd : d < n') (hl : d < gn f d) (he : lesN f d = e) :
    Calls Try.prog 52 #[.agg #[.slice A n c, .slice A' n' c'], .int .i64 e] w fun e' w' => e' = .returned (.int .i64 d) ∧ Below w.heap.size w w' := by
  obtain ⟨W0, hW0, hx, hb, -⟩ := Box.local_ w 25 (.slice A n c) (.slice A' n' c')
  have hn12 : n' ≤ 12 := by rw [← h'.1]; exact hf.2.1
  have c0 := hx.cell0
  have c1 := hx.cell1
  have HB := Lib.hid hb; have H' := Lib.hid h'; have HF := Lib.hid hf; have HP := Lib.hid hp; have HL := Lib.hid hl; have HE := Lib.hid he; clear hx hb h' hf hp hl he
  go_enter Try.func52, Try.ntmps52
  go_wp2_with fail
  refine (l7Edges_any A A' n n' c c' f W0 (H'.out.below HB.out) HF.out HP.out).mono ?_
  rintro e' w1 ⟨v, rfl, o, bl⟩
  obtain ⟨A2, c2, rfl, -, -⟩ := o.form' ((edgL_len f).trans H'.out.1)
  have HRL := Lib.hid (o.rd ((edgL_len f).trans H'.out.1))
  have HB1 := Lib.hid (HB.out.trans (bl.mono HB.out.size))
  clear o bl c0 c1
  go_wp2_with fail
  go_loop [6] (fun kv => ∃ k : Nat, k ≤ d ∧ kv = .int .i64 k) (fun kv => d - (intOf kv).toNat)
  case atStart => exact ⟨0, Nat.zero_le _, rfl⟩
  case round =>
    obtain ⟨k, hk, rfl⟩ := hrel
    have hkn : k < n' := by omega
    obtain ⟨ad, rfl, hc⟩ := HRL.out.at_ hkn
    rw [gi_edgL (by rw [H'.out.1]; exact hkn)] at hc
    obtain ⟨x, hx⟩ : ∃ x, edgN f k = x := ⟨_, rfl⟩
    rw [hx] at hc
    by_cases hkd : k = d
    · have hxe : x = e := by rw [← hx, hkd, edgN_less HL.out, HE.out]
      have hb : ((x : Int) == (e : Int)) = true := by simp [hxe]
      have HKD := Lib.hid hkd
      clear hx hxe hkd
      go_wp2_with fail
      go_ret
      exact ⟨by rw [HKD.out]; rfl, HB1.out⟩
    · have hxe : x ≠ e := by
        rw [← hx, ← HE.out, ← edgN_less HL.out]
        intro h
        rcases edgN_inj HF.out HP.out (by rw [H'.out.1]; exact hd) (by rw [H'.out.1]; exact hkn) h.symm with h | h
        · exact hkd h
        · have := HL.out; omega
      have hb : ((x : Int) == (e : Int)) = false := by simp; omega
      have hkd' : k < d := by omega
      clear hx hxe hkd
      go_wp2_with fail
      go_round
      case rel => exact ⟨k + 1, by omega, by go_num⟩
      case measure => simp [intOf]; omega

end Go.Proofs.Ytcenffndclpjoaa
