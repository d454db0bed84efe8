/-
  PermOrder, the model's.
-/
import Derived.Test.YthmldbhenaampaaOrdPlain
import Derived.Test.YthmldbhenaampaaSpecPow
namespace Go.Proofs.Ythmldbhenaampaa
open Go.RowKit

set_option maxHeartbeats 800000 in
theorem l1Moves_any (A : Option Addr) (n c : Nat) (xs : List Int) (w : World) (h : Rd w A n xs) (hn : n ≤ 1048576) :
    Calls Try.prog 49 #[.slice A n c] w fun e w' => e = .returned (.bool (movesB xs)) ∧ w = w' := by
  have H := Lib.hid h; have Hx := Lib.hid h.1; clear h
  go_enter Try.func49, Try.ntmps49
  go_wp2_with fail
  go_loop [3] (fun i => ∃ k : Nat, k ≤ n ∧ i = .int .i64 k ∧ Hid (∀ j, j < k → gi xs j = (j : Int))) (fun i => n - (intOf i).toNat)
  case atStart => exact ⟨0, Nat.zero_le _, rfl, fun j hj => absurd hj (by omega)⟩
  case round =>
    obtain ⟨k, hk, rfl, hall⟩ := hrel
    by_cases hlt : k < n
    · obtain ⟨ad, rfl, hc⟩ := H.out.at_ hlt
      by_cases he : gi xs k = (k : Int)
      · have he' : (gi xs k != (k : Int)) = false := by simp [he]
        have HE := Lib.hid he; clear he
        go_wp2
        go_round
        case rel => exact ⟨k + 1, by omega, by go_num, fun j hj => by
          by_cases e : j = k
          · subst e; exact HE.out
          · exact hall.out j (by omega)⟩
        case measure => simp [intOf]; omega
      · have he' : (gi xs k != (k : Int)) = true := by simp [he]
        have HE : Hid (movesB xs = true) := by
          unfold Hid movesB
          rw [List.any_eq_true]
          exact ⟨k, by rw [Hx.out]; simpa using hlt, he'⟩
        clear he
        go_wp2
        go_ret
        exact ⟨ret_bool HE.out.symm, rfl⟩
    · have HE : Hid (movesB xs = false) := by
        unfold Hid movesB
        rw [List.any_eq_false]
        intro j hj
        have : j < n := by rw [Hx.out] at hj; simpa using hj
        simp [hall.out j (by omega)]
      go_wp2
      go_ret
      exact ⟨ret_bool HE.out.symm, rfl⟩

theorem iterL_one {p : List Int} (hp : Vld p) : iterL p 1 = p := by
  symm
  refine tab_ext rfl fun j hj => ?_
  rw [hp.gi_gn hj]; rfl

set_option maxHeartbeats 800000 in
theorem spec_ordR (w : World) (A0 : Option Addr) (c0 n0 : Nat) (xs0 : List Int) (h0 : Rd w A0 n0 xs0) (hn0 : n0 ≤ 1048576) {r : Int} (hR : ordR xs0 = r) :
    Calls Try.prog 17 #[.slice A0 n0 c0] w fun e w' => e = .returned (.int .i64 r) ∧ Below w.heap.size w w' := by
  have H0 := Lib.hid h0; have HR := Lib.hid hR; clear h0 hR
  by_cases hb : vld xs0 = true
  · have HV := Lib.hid (Vld_of hb)
    have h12 : n0 ≤ 12 := by rw [← H0.out.1]; exact HV.out.2.1
    obtain ⟨L, hL⟩ : ∃ L, lcmL (cyclesL xs0) = L := ⟨_, rfl⟩
    have hL0 : 0 < L := hL ▸ ord_pos HV.out
    have hLs : L ≤ 23298085122481 := hL ▸ ord_le HV.out (by
      have key : ∀ (is : List Nat) (vis : List Nat), (cycAll xs0 is vis).length ≤ is.length := by
        intro is
        induction is with
        | nil => intro vis; simp [cycAll]
        | cons i is ih =>
          intro vis
          rw [cycAll]
          split
          · exact Nat.le_succ_of_le (ih vis)
          · simpa using ih _
      have h1 : (cyclesL xs0).length ≤ xs0.length := by
        have := key (List.range' 0 xs0.length) []
        rw [List.length_range'] at this
        exact this
      rw [H0.out.1] at h1
      exact Nat.le_trans h1 h12)
    obtain rfl : r = (L : Int) := by have := HR.out; rw [ordR, if_pos hb, hL] at this; exact this.symm
    have HL := Lib.hid hL; have Hn := Lib.hid H0.out.1; clear HR hL
    go_enter Try.func17, Try.ntmps17
    go_wp2_with fail
    refine (specValid_b A0 n0 c0 xs0 w H0.out (by omega)).mono ?_
    rintro e w1 ⟨rfl, b⟩
    have HB := Lib.hid b; have H01 := Lib.hid (H0.out.below b); clear b
    go_wp2_with fail
    go_loopw [3, 4] (fun nv v' wr' => ∃ (wr : World) (A : Option Addr) (c m : Nat), wr = wr' ∧ v' = .slice A n0 c ∧ nv = .int .i64 m ∧ 1 ≤ m ∧ m ≤ L ∧ Hid (Rd wr A n0 (iterL xs0 m)) ∧ Hid (Below w.heap.size w wr) ∧ Hid (Rd wr A0 n0 xs0)) (fun nv _ _ => L - (intOf nv).toNat)
    case atStart => exact ⟨_, _, _, 1, rfl, rfl, rfl, by omega, by omega, by rw [iterL_one HV.out]; exact H01, HB, H01⟩
    case round =>
      clear HB H01
      obtain ⟨wr, A, c, m, rfl, rfl, rfl, hm1, hmL, hr, hbe, h0⟩ := hrel
      by_cases hmv : movesB (iterL xs0 m) = true
      · have hlt : m < L := by
          rcases Nat.lt_or_ge m L with h | h
          · exact h
          · have e : m = L := by omega
            have := (moves_iter HV.out m).2 (by rw [HL.out, e]; exact Nat.dvd_refl _)
            rw [hmv] at this; cases this
        go_wp2_with fail
        refine (l1Moves_any A n0 c (iterL xs0 m) wr hr.out (by omega)).mono ?_
        rintro e w' ⟨rfl, rfl⟩
        go_wp2_with fail
        refine (l1Mul_any A A0 n0 n0 c c0 (iterL xs0 m) xs0 wr hr.out h0.out (by omega) (by omega) (iterL_into HV.out m Hn.out)).mono ?_
        rintro e w4 ⟨v4, rfl, o, b⟩
        rw [iterL_succ HV.out] at o
        have HB4 := Lib.hid (hbe.out.trans (b.mono hbe.out.size)); have H04 := Lib.hid (h0.out.below b); clear b
        obtain ⟨A4, c4, rfl, r4, -⟩ := o.form' (n := n0) ((iterL_len xs0 (m + 1)).trans Hn.out)
        have R4 := Lib.hid r4; clear r4 o
        go_wp2_with fail
        go_roundw
        case rel => exact ⟨_, _, _, m + 1, rfl, rfl, by go_num, by omega, by omega, R4, HB4, H04⟩
        case measure => simp [intOf]; omega
      · have hmv' : movesB (iterL xs0 m) = false := by simpa using hmv
        have hd := (moves_iter HV.out m).1 hmv'
        rw [HL.out] at hd
        have hge := Nat.le_of_dvd (by omega) hd
        have hme : m = L := by omega
        have HME := Lib.hid hme; clear hmv hd hme
        go_wp2_with fail
        refine (l1Moves_any A n0 c (iterL xs0 m) wr hr.out (by omega)).mono ?_
        rintro e w' ⟨rfl, rfl⟩
        go_wp2_with fail
        go_ret
        exact ⟨ret_int (by rw [HME.out]), hbe.out⟩
  · have hb' : vld xs0 = false := by simpa using hb
    obtain rfl : r = -1 := by have := HR.out; rw [ordR, if_neg hb] at this; exact this.symm
    clear HR hb
    go_enter Try.func17, Try.ntmps17
    go_wp2_with fail
    refine (specValid_b A0 n0 c0 xs0 w H0.out (by omega)).mono ?_
    rintro e w1 ⟨rfl, b⟩
    have HB := Lib.hid b; clear b
    go_wp2_with fail
    go_ret
    exact ⟨rfl, HB.out⟩

end Go.Proofs.Ythmldbhenaampaa
