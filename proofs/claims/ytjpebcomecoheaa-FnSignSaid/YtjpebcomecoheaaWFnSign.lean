/-
  FnSign: the walk of the law.
-/
import Derived.Test.YtjpebcomecoheaaLawKit
import Derived.Test.YtjpebcomecoheaaPar2
import Derived.Test.YtjpebcomecoheaaSign
namespace Go.Proofs.Ytjpebcomecoheaa
open Go.RowKit

set_option maxRecDepth 100000 in
set_option maxHeartbeats 3200000 in
theorem walk_FnSign (A0 : Option Addr) (n0 c0 : Nat) (bs0 : List Int) (w : World) (h0 : RdB w A0 n0 bs0) (hm0 : n0 ≤ maxLen ∧ n0 ≤ c0) :
    Calls Try.prog 5 #[.slice A0 n0 c0] w fun e w' => e = .returned (.bool true) ∧ Below w.heap.size w w' := by
  have HB0_0 := Lib.hid h0; have hc0 := hm0.2; have hml0 := hm0.1; clear h0 hm0; unfold maxLen at hml0
  by_cases hbig0 : 1048576 < n0
  · have hd : decide ((1048576 : Int) < n0) = true := by simp; omega
    go_enter Try.func5, Try.ntmps5
    go_wp2
    go_ret
    exact ⟨rfl, Below.refl _ _⟩
  have hd0 : decide ((1048576 : Int) < n0) = false := by simp; omega
  have hnb0 : n0 ≤ 1048576 := by omega
  clear hbig0
  go_enter Try.func5, Try.ntmps5
  go_wp2_with fail
  refine (drawSign_any w A0 n0 c0 bs0 HB0_0.out hnb0 hc0).mono ?_
  rintro e w1 ⟨v, p, rfl, o, hlp, b⟩
  obtain ⟨np, hn⟩ : ∃ n, p.length = n := ⟨_, rfl⟩
  rw [hn] at hlp
  obtain ⟨Ap, cp, rfl, -, -⟩ := o.form' hn
  have HRp := Lib.hid (o.rd hn); have HNp := Lib.hid hn; clear o hn
  have HB := Lib.hid b; have hs := b.size; clear b
  obtain ⟨r, hr⟩ : ∃ r, signR p = r := ⟨_, rfl⟩
  have HRR := Lib.hid hr; clear hr
  have hself : (r != r) = false := by simp
  have hself2 : (r == r) = true := by simp
  go_wp2_with fail
  refine (impl_signR w1 Ap cp np p HRp.out (by omega) HRR.out).mono ?_
  rintro e w2 ⟨rfl, b⟩
  replace HRp := Lib.hid (HRp.out.below b)
  replace HB := Lib.hid (HB.out.trans (b.mono hs)); replace hs := HB.out.size; clear b
  go_wp2_with fail
  refine (spec_signR w2 Ap cp np p HRp.out (by omega) HRR.out).mono ?_
  rintro e w3 ⟨rfl, b⟩
  replace HRp := Lib.hid (HRp.out.below b)
  replace HB := Lib.hid (HB.out.trans (b.mono hs)); replace hs := HB.out.size; clear b
  by_cases hv : vld p = true
  · have HV := Lib.hid (Vld_of hv)
    have hn12 : np ≤ 12 := by have := HV.out.2.1; rw [HNp.out] at this; exact this
    have HSE : Hid (r = if invs (gn p) np % 2 = 0 then 1 else -1) := by rw [Hid, ← HNp.out, ← sign_eq HV.out]; exact HRR.out.symm
    have hpm : r = 1 ∨ r = -1 := by rw [← HRR.out]; exact sign_pm HV.out
    have hr0 : (r == 0) = false := by rcases hpm with rfl | rfl <;> rfl
    go_wp2_with fail
    go_loopw [6, 7, 8] (fun tv iv _ wr => ∃ i d T : Nat, iv = .int .i64 i ∧ i ≤ np ∧ tv = .int .i64 T ∧ T = invs (gn p) i ∧ T ≤ 144 ∧ wr = w3.drewN d) (fun _ iv _ _ => np - (intOf iv).toNat)
    case atStart => exact ⟨0, 0, 0, rfl, by omega, rfl, rfl, by omega, rfl⟩
    case round =>
      obtain ⟨i, d, T, rfl, hi, rfl, hT, hT2, rfl⟩ := hrel
      have HT := Lib.hid hT; clear hT
      by_cases hlt : i < np
      · obtain ⟨ap, rfl, hp1⟩ := HRp.out.at_ hlt
        have hpi := HV.out.gi_gn (j := i) (by rw [HNp.out]; exact hlt)
        rw [hpi] at hp1
        obtain ⟨x, hx⟩ : ∃ x, gn p i = x := ⟨_, rfl⟩
        rw [hx] at hp1
        have HX := Lib.hid hx; clear hx hpi
        have HS : Hid (T + sm i (fun k => ch (gn p i < gn p k)) = invs (gn p) (i + 1)) := by rw [Hid, invs_succ, HT.out]
        go_wp2_with fail
        go_loopw [6, 8] (fun tv kv wr => ∃ k d U : Nat, kv = .int .i64 k ∧ k ≤ i ∧ tv = .int .i64 ((T + U : Nat) : Int) ∧ U = sm k (fun q => ch (gn p i < gn p q)) ∧ U ≤ k ∧ wr = w3.drewN d) (fun _ kv _ => i - (intOf kv).toNat)
        case atStart => exact ⟨0, d, 0, rfl, by omega, rfl, rfl, by omega, rfl⟩
        case round =>
          obtain ⟨k, d, U, rfl, hk, rfl, hU, hU2, rfl⟩ := hrel
          have HU := Lib.hid hU; clear hU
          by_cases hki : k < i
          · obtain ⟨ap', e, hp2⟩ := HRp.out.at_ (show k < np by omega)
            simp only [Option.some.injEq] at e
            subst e
            have hpk := HV.out.gi_gn (j := k) (by rw [HNp.out]; omega)
            rw [hpk] at hp2
            obtain ⟨y, hy⟩ : ∃ y, gn p k = y := ⟨_, rfl⟩
            rw [hy] at hp2
            have HY := Lib.hid hy; clear hy hpk
            by_cases hxy : x < y
            · have hd : decide ((x : Int) < (y : Int)) = true := by simp; omega
              have HC : Hid (U + 1 = sm (k + 1) (fun q => ch (gn p i < gn p q))) := by rw [Hid, sm, ← HU.out, HX.out, HY.out, ch_true hxy]
              go_wp2
              go_quiet (fail)
              go_wp2
              go_roundw
              case rel => exact ⟨k + 1, d + _, U + 1, by go_num, by omega, by go_num, HC.out, by omega, rfl⟩
              case measure => simp [intOf]; omega
            · have hd : decide ((x : Int) < (y : Int)) = false := by simp; omega
              have HC : Hid (U = sm (k + 1) (fun q => ch (gn p i < gn p q))) := by rw [Hid, sm, ← HU.out, HX.out, HY.out, ch_false hxy, Nat.add_zero]
              go_wp2
              go_quiet (fail)
              go_wp2
              go_roundw
              case rel => exact ⟨k + 1, d + _, U, by go_num, by omega, by go_num, HC.out, by omega, rfl⟩
              case measure => simp [intOf]; omega
          · have hki' : k = i := by omega
            subst hki'
            have HC : Hid (T + U = invs (gn p) (k + 1)) := by rw [Hid, ← HS.out, HU.out]
            have hle : T + U ≤ 144 := by
              rw [HC.out]
              have h1 := invs_le (gn p) (k + 1)
              have h2 : (k + 1) * (k + 1) ≤ 12 * 12 := Nat.mul_le_mul (by omega) (by omega)
              omega
            go_wp2
            go_roundw
            case rel => exact ⟨k + 1, d, T + U, by go_num, by omega, rfl, HC.out, hle, rfl⟩
            case measure => simp [intOf]; omega
      · have hin : i = np := by omega
        subst hin
        have hm2 : (T : Int).tmod 2 = ((T % 2 : Nat) : Int) := rfl
        have hse := HSE.out
        rw [← HT.out] at hse
        by_cases hpar : T % 2 = 0
        · rw [if_pos hpar] at hse
          rw [hpar] at hm2
          subst hse
          go_wp2
          go_ret
          exact ⟨rfl, below_drewN HB.out d⟩
        · rw [if_neg hpar] at hse
          rw [show T % 2 = 1 by omega] at hm2
          subst hse
          go_wp2
          go_ret
          exact ⟨rfl, below_drewN HB.out d⟩
  · have hr0 : r = 0 := by rw [← HRR.out, signR, if_neg hv]
    subst hr0
    go_wp2_with fail
    go_ret
    exact ⟨rfl, HB.out⟩

end Go.Proofs.Ytjpebcomecoheaa
