/-
  Lists of types: the model's and the program's look whether they are valid; FactorGenus by contract.
-/
import Derived.Test.YtkbdbkoeahihiaaRowsSS
import Derived.Test.YtkbdbkoeahihiaaValid
import Derived.Test.YtkbdbkoeahihiaaPtL
namespace Go.Proofs.Ytkbdbkoeahihiaa
open Go.RowKit
set_option linter.unusedVariables false

/-- The j-th list. -/
def row (xss : List (List Int)) (j : Nat) : List Int := xss.getD j []
def TyOk (xss : List (List Int)) : Prop := 1 ≤ xss.length ∧ xss.length ≤ 6 ∧ ∀ j, j < xss.length → prB (row xss 0) (row xss j) = true
instance (xss : List (List Int)) : Decidable (TyOk xss) := by unfold TyOk; infer_instance
def tyB (xss : List (List Int)) : Bool := decide (TyOk xss)
theorem TyOk.pair {xss : List (List Int)} (h : TyOk xss) {j : Nat} (hj : j < xss.length) : PairOk (row xss 0) (row xss j) := prB_iff.1 (h.2.2 j hj)
theorem tyB_not {xss : List (List Int)} {j : Nat} (hj : j < xss.length) (h : prB (row xss 0) (row xss j) = false) : tyB xss = false := by
  simp only [tyB, decide_eq_false_iff_not]
  intro k
  rw [k.2.2 j hj] at h
  exact absurd h (by decide)

set_option maxHeartbeats 1600000 in
theorem typesValid_any (A : Option Addr) (n c : Nat) (xss : List (List Int)) (w : World) (h : RdSS w A n xss) (hn : n ≤ 1048576) (ht : total xss ≤ 1048576) {r : Bool} (hr : tyB xss = r) :
    Calls Try.prog 49 #[.slice A n c] w fun e w' => e = .returned (.bool r) ∧ w' = w := by
  have H := Lib.hid h; have Hx := Lib.hid h.1; have HT := Lib.hid ht; have HR := Lib.hid hr; clear h ht hr
  by_cases h1 : n < 1
  · have hd : decide ((n : Int) < 1) = true := by simp; omega
    have HE : Hid (false = r) := by rw [Hid, ← HR.out]; symm; simp only [tyB, decide_eq_false_iff_not]; intro k; have := k.1; rw [Hx.out] at this; omega
    go_enter Try.func49, Try.ntmps49
    go_wp2_with fail
    go_ret
    exact ⟨ret_bool HE.out, rfl⟩
  have hd : decide ((n : Int) < 1) = false := by simp; omega
  by_cases h6 : 6 < n
  · have hd6 : decide ((6 : Int) < n) = true := by simp; omega
    have HE : Hid (false = r) := by rw [Hid, ← HR.out]; symm; simp only [tyB, decide_eq_false_iff_not]; intro k; have := k.2.1; rw [Hx.out] at this; omega
    go_enter Try.func49, Try.ntmps49
    go_wp2_with fail
    go_ret
    exact ⟨ret_bool HE.out, rfl⟩
  have hd6 : decide ((6 : Int) < n) = false := by simp; omega
  go_enter Try.func49, Try.ntmps49
  go_wp2_with fail
  clear hd hd6
  go_loop [15] (fun i => ∃ k : Nat, k ≤ n ∧ i = .int .i64 k ∧ Hid (∀ j, j < k → prB (row xss 0) (row xss j) = true)) (fun i => n - (intOf i).toNat)
  case atStart => exact ⟨0, Nat.zero_le _, rfl, fun j hj => absurd hj (by omega)⟩
  case round =>
    obtain ⟨k, hk, rfl, hall⟩ := hrel
    by_cases hlt : k < n
    · obtain ⟨ad, A0, c0, n0, rfl, hc0, hr0, _⟩ := H.out.at_ (k := 0) (by omega)
      obtain ⟨ad', Aj, cj, nj, e, hc, hr, _⟩ := H.out.at_ hlt
      obtain rfl : ad = ad' := by simpa using e
      rw [addz] at hc0
      have g0 := total_ge (xss := xss) (k := 0) (by rw [Hx.out]; omega)
      have gj := total_ge (xss := xss) (k := k) (by rw [Hx.out]; exact hlt)
      rw [hr0.1] at g0
      rw [hr.1] at gj
      have hT := HT.out
      have h0 : n0 ≤ 1048576 := by omega
      have hj : nj ≤ 1048576 := by omega
      have HR0 := Lib.hid hr0; have HRJ := Lib.hid hr; clear hr0 hr g0 gj hT e
      by_cases hp : prB (row xss 0) (row xss k) = true
      · have HP := Lib.hid hp
        go_wp2_with (go_at_call 54; refine (partsPair_any A0 Aj n0 nj c0 cj _ _ _ HR0.out HRJ.out h0 hj HP.out).mono ?_; rintro e w' ⟨rfl, rfl⟩)
        go_round
        case rel => exact ⟨k + 1, by omega, by go_num, fun j hj => by
          by_cases e : j = k
          · rw [e]; exact HP.out
          · exact hall.out j (by omega)⟩
        case measure => simp [intOf]; omega
      · have hp : prB (row xss 0) (row xss k) = false := by simpa using hp
        have HP := Lib.hid hp
        have HE : Hid (false = r) := by rw [Hid, ← HR.out]; exact (tyB_not (by rw [Hx.out]; exact hlt) hp).symm
        go_wp2_with (go_at_call 54; refine (partsPair_any A0 Aj n0 nj c0 cj _ _ _ HR0.out HRJ.out h0 hj HP.out).mono ?_; rintro e w' ⟨rfl, rfl⟩)
        go_ret
        exact ⟨ret_bool HE.out, rfl⟩
    · have HE : Hid (true = r) := by
        rw [Hid, ← HR.out]; symm
        simp only [tyB, decide_eq_true_eq]
        exact ⟨by rw [Hx.out]; omega, by rw [Hx.out]; omega, fun j hj => hall.out j (by rw [Hx.out] at hj; omega)⟩
      go_wp2_with fail
      go_ret
      exact ⟨ret_bool HE.out, rfl⟩

set_option maxHeartbeats 3200000 in
theorem l5Types_any (A : Option Addr) (n c : Nat) (xss : List (List Int)) (w : World) (h : RdSS w A n xss) (hn : n ≤ 1048576) (ht : total xss ≤ 1048576) {r : Bool} (hr : tyB xss = r) :
    Calls Try.prog 51 #[.slice A n c] w fun e w' => e = .returned (.bool r) ∧ ∃ q, w' = w.drewN q := by
  have H := Lib.hid h; have Hx := Lib.hid h.1; have HT := Lib.hid ht; have HR := Lib.hid hr; clear h ht hr
  go_enter Try.func51, Try.ntmps51
  go_wp2_with fail
  go_loopw [3] (fun i wr => ∃ k q : Nat, k ≤ n ∧ i = .int .i64 k ∧ wr = w.drewN q ∧ Hid (∀ j, j < k → prB (row xss 0) (row xss j) = true)) (fun i _ => n - (intOf i).toNat)
  case atStart => exact ⟨0, 0, Nat.zero_le _, rfl, rfl, fun j hj => absurd hj (by omega)⟩
  case round =>
    obtain ⟨k, q, hk, rfl, rfl, hall⟩ := hrel
    generalize hWe : w.drewN q = W
    have HW := Lib.hid hWe.symm; clear hWe
    by_cases hlt : k < n
    · obtain ⟨ad, A0, c0, n0, rfl, hc0, hr0, _⟩ := H.out.at_ (k := 0) (by omega)
      obtain ⟨ad', Aj, cj, nj, e, hc, hr, _⟩ := H.out.at_ hlt
      obtain rfl : ad = ad' := by simpa using e
      rw [addz] at hc0
      have g0 := total_ge (xss := xss) (k := 0) (by rw [Hx.out]; omega)
      have gj := total_ge (xss := xss) (k := k) (by rw [Hx.out]; exact hlt)
      rw [hr0.1] at g0
      rw [hr.1] at gj
      have hT := HT.out
      have h0 : n0 ≤ 1048576 := by omega
      have hj : nj ≤ 1048576 := by omega
      have HR0 : Hid (Rd W A0 n0 (row xss 0)) := (HW.out ▸ hr0.drewN q); have HRJ : Hid (Rd W Aj nj (row xss k)) := (HW.out ▸ hr.drewN q); have hc' : W.cell? (ad.add k) = some (.slice Aj nj cj) := (HW.out ▸ (show (w.drewN q).cell? (ad.add k) = _ from hc)); have hc0' : W.cell? ad = some (.slice A0 n0 c0) := (HW.out ▸ (show (w.drewN q).cell? ad = _ from hc0)); clear hr0 hr g0 gj hT e
      by_cases pj : pt (row xss k) = true
      · have p0 : pt (row xss 0) = true := by
          by_cases e : k = 0
          · rw [← e]; exact pj
          · exact pt_true (prB_iff.1 (hall.out 0 (by omega))).1
        have PJ := Lib.hid pj; have P0 := Lib.hid p0
        have C1 : Hid (∀ m, Calls Try.prog 11 #[.slice Aj nj cj] (W.drewN m) fun e w' => e = .returned (.bool true) ∧ ∃ p, w' = (W.drewN m).drewN p) := fun m => spec_ptq _ Aj cj nj _ (HRJ.out.drewN m) hj PJ.out
        have C2 : Hid (∀ m, Calls Try.prog 52 #[.slice Aj nj cj] (W.drewN m) fun e w' => e = .returned (.int .i64 (sumI (row xss k))) ∧ w' = W.drewN m) := fun m => l5Sum_any Aj nj cj _ _ (HRJ.out.drewN m) (Pt_of PJ.out)
        have C3 : Hid (∀ m, Calls Try.prog 52 #[.slice A0 n0 c0] (W.drewN m) fun e w' => e = .returned (.int .i64 (sumI (row xss 0))) ∧ w' = W.drewN m) := fun m => l5Sum_any A0 n0 c0 _ _ (HR0.out.drewN m) (Pt_of P0.out)
        clear pj p0
        by_cases he : sumI (row xss k) = sumI (row xss 0)
        · have hq : (sumI (row xss k) != sumI (row xss 0)) = false := by simpa using he
          have HP : Hid (prB (row xss 0) (row xss k) = true) := by simp [Hid, prB, PJ.out, P0.out, he]
          clear he
          go_wp2
          go_quiet (first | (go_at_call 11; exact Calls.quiet_of (C1.out _)) | (go_at_call_of 52 (Value.slice Aj nj cj); exact Calls.quiet_of_same (C2.out _)) | (go_at_call_of 52 (Value.slice A0 n0 c0); exact Calls.quiet_of_same (C3.out _)))
          go_wp2
          go_roundw
          case rel => exact ⟨k + 1, q + _, by omega, by go_num, by rw [HW.out, World.drewN_drewN], fun j hj => by
            by_cases e : j = k
            · rw [e]; exact HP.out
            · exact hall.out j (by omega)⟩
          case measure => simp [intOf]; omega
        · have hq : (sumI (row xss k) != sumI (row xss 0)) = true := by simpa using he
          have hp : prB (row xss 0) (row xss k) = false := by simp [prB, PJ.out, P0.out]; intro e; exact he e.symm
          have HE : Hid (false = r) := by rw [Hid, ← HR.out]; exact (tyB_not (by rw [Hx.out]; exact hlt) hp).symm
          clear he hp
          go_wp2
          go_quiet (first | (go_at_call 11; exact Calls.quiet_of (C1.out _)) | (go_at_call_of 52 (Value.slice Aj nj cj); exact Calls.quiet_of_same (C2.out _)) | (go_at_call_of 52 (Value.slice A0 n0 c0); exact Calls.quiet_of_same (C3.out _)))
          go_wp2
          go_ret
          exact ⟨ret_bool HE.out, q + _, by rw [HW.out, World.drewN_drewN]⟩
      · have pj : pt (row xss k) = false := by simpa using pj
        have hp : prB (row xss 0) (row xss k) = false := by simp [prB, pj]
        have PJ := Lib.hid pj
        have HE : Hid (false = r) := by rw [Hid, ← HR.out]; exact (tyB_not (by rw [Hx.out]; exact hlt) hp).symm
        have C1 : Hid (∀ m, Calls Try.prog 11 #[.slice Aj nj cj] (W.drewN m) fun e w' => e = .returned (.bool false) ∧ ∃ p, w' = (W.drewN m).drewN p) := fun m => spec_ptq _ Aj cj nj _ (HRJ.out.drewN m) hj PJ.out
        clear pj hp
        go_wp2
        go_quiet ((go_at_call 11; exact Calls.quiet_of (C1.out _)))
        go_wp2
        go_ret
        exact ⟨ret_bool HE.out, q + _, by rw [HW.out, World.drewN_drewN]⟩
    · have HE : Hid (inB (n : Int) 1 6 = r) := by
        rw [Hid, ← HR.out]
        by_cases hin : 1 ≤ n ∧ n ≤ 6
        · have e1 : inB (n : Int) 1 6 = true := by simp [inB]; omega
          have e2 : tyB xss = true := by
            simp only [tyB, decide_eq_true_eq]
            exact ⟨by rw [Hx.out]; omega, by rw [Hx.out]; omega, fun j hj => hall.out j (by rw [Hx.out] at hj; omega)⟩
          rw [e1, e2]
        · have e1 : inB (n : Int) 1 6 = false := by simp [inB]; omega
          have e2 : tyB xss = false := by
            simp only [tyB, decide_eq_false_iff_not]
            intro k; have := k.1; have := k.2.1; rw [Hx.out] at *; omega
          rw [e1, e2]
      go_wp2_with (go_at_call 37; refine (l6In_any _ _ _ _).mono ?_; rintro e w' ⟨rfl, rfl⟩)
      go_ret
      exact ⟨ret_bool HE.out, _, HW.out⟩

end Go.Proofs.Ytkbdbkoeahihiaa
