/-
  The model's PermPower.
-/
import Derived.Test.YtppblbmnjglhbaaOrb
import Derived.Test.YtppblbmnjglhbaaBack
namespace Go.Proofs.Ytppblbmnjglhbaa
open Go.RowKit

def sameL (n : Nat) : List Int := tab n fun i => (i : Int)
theorem iterL_zero (p : List Int) : iterL p 0 = sameL p.length := rfl

set_option maxHeartbeats 800000 in
theorem l1Same_pow (n : Nat) (w : World) (hn : n ≤ 1048576) :
    Calls Try.prog 41 #[.int .i64 n] w fun e w' => ∃ v, e = .returned v ∧ Own w' w.heap.size v (sameL n) ∧ Below w.heap.size w w' := by
  obtain ⟨i0, hinf, hz0, hz1, hz2⟩ := info_parts info_int
  go_enter Try.func41, Try.ntmps41
  go_wp2_with fail
  go_loopw [3, 4] (fun v' i wr => ∃ (v : Value) (k : Nat), v = v' ∧ k ≤ n ∧ i = .int .i64 k ∧ Hid (wr.ownsRow w.heap.size 3 1 v k (ints (sameL k))) ∧ Hid (Below w.heap.size w wr)) (fun _ i _ => n - (intOf i).toNat)
  case atStart => exact ⟨_, 0, rfl, Nat.zero_le _, rfl, Own.empty (Nat.le_refl _), (Below.refl _ _).alloc (Nat.le_refl _) _⟩
  case round =>
    obtain ⟨v, k, rfl, hk, rfl, ho, hb⟩ := hrel
    have hbs := hb.out.size
    by_cases hlt : k < n
    · go_wp2_with (at_builtin; refine wpList_append_own _ rfl _ _ 23 rfl w.heap.size 3 i0 (.int .i64 0) 1 8 Try.underlying23 hinf hz0 hz1 hz2 rfl (by decide) _ _ _ rfl (ho.out.alloc _) ⟨wr.heap.size, 0, none⟩ 1 1 [.int .i64 (k : Int)] rfl rfl (cell_one_new _ _ _) (by intro u hu; simp at hu; subst hu; rfl) (by unfold maxLen; omega) (by omega) (by simp; omega) ?_; intro v1 w1 hown1 hgrow1 _)
      have HO := Lib.hid hown1; have HGR := Lib.hid hgrow1; clear hown1 hgrow1
      go_wp2
      go_roundw
      case rel =>
        refine ⟨_, k + 1, rfl, by omega, by go_num, ?_, ?_⟩
        · have := HO.out
          have e : sameL (k + 1) = sameL k ++ [(k : Int)] := by simp [sameL, tab, List.range_succ]
          rw [Hid, e, ints, List.map_append]
          exact this
        · exact (hb.out.alloc hbs _).grown HGR.out (by simp; omega) (fun j hj => (ho.out.lt j hj).1)
      case measure => simp [intOf]; omega
    · have hkn : k = n := by omega
      subst hkn
      go_wp2
      go_ret
      refine ⟨_, rfl, ?_, hb.out⟩
      unfold Own
      rw [sameL, tab_len]
      exact ho.out

set_option maxHeartbeats 800000 in
theorem specPow_pos (w : World) (A0 : Option Addr) (c0 n0 : Nat) (p : List Int) (h0 : Rd w A0 n0 p) (hp : Vld p) (k : Nat) (hk : k ≤ 1000) :
    Calls Try.prog 10 #[.slice A0 n0 c0, .int .i64 k] w fun e w' => ∃ v, e = .returned (.tuple #[v, .bool true]) ∧ Own w' w.heap.size v (iterL p k) ∧ Below w.heap.size w w' := by
  have h12 : n0 ≤ 12 := by rw [← h0.1]; exact hp.2.1
  have hb := vld_true hp
  have hin := inB_true (x := (k : Int)) (lo := -1000) (hi := 1000) (by omega) (by omega)
  have hd : decide ((k : Int) < 0) = false := by simp
  have H0 := Lib.hid h0; have HV := Lib.hid hp; have Hn := Lib.hid h0.1; clear h0 hp
  go_enter Try.func10, Try.ntmps10
  go_wp2_with fail
  refine (specValid_b A0 n0 c0 p w H0.out (by omega)).mono ?_
  rintro e w1 ⟨rfl, b⟩
  have HB := Lib.hid b; have H01 := Lib.hid (H0.out.below b); clear b
  go_wp2_with fail
  refine (l6In_any _ _ _ _).mono ?_
  rintro e w' ⟨rfl, rfl⟩
  go_wp2_with fail
  refine (l1Same_pow n0 w1 (by omega)).mono ?_
  rintro e w2 ⟨v, rfl, o, b⟩
  have HO := Lib.hid (o.mono HB.out.size); have HB2 := Lib.hid (HB.out.trans (b.mono HB.out.size)); have H02 := Lib.hid (H01.out.below b); clear o b
  go_wp2_with fail
  go_loopw [6, 7] (fun v' i wr' => ∃ (wr : World) (v : Value) (j : Nat), wr = wr' ∧ v = v' ∧ j ≤ k ∧ i = .int .i64 j ∧ Hid (Own wr w.heap.size v (iterL p j)) ∧ Hid (Below w.heap.size w wr) ∧ Hid (Rd wr A0 n0 p)) (fun _ i _ => k - (intOf i).toNat)
  case atStart => exact ⟨_, _, 0, rfl, rfl, Nat.zero_le _, rfl, by rw [iterL_zero, Hn.out]; exact HO, HB2, H02⟩
  case round =>
    clear HO HB2 H02
    obtain ⟨wr, v, j, rfl, rfl, hj, rfl, ho, hbe, hr⟩ := hrel
    by_cases hlt : j < k
    · obtain ⟨A3, c3, rfl, r3, -⟩ := ho.out.form' (n := n0) ((iterL_len p j).trans Hn.out)
      have R3 := Lib.hid r3; clear r3
      go_wp2_with fail
      refine (l1Mul_any A3 A0 n0 n0 c3 c0 (iterL p j) p wr R3.out hr.out (by omega) (by omega) (iterL_into HV.out j Hn.out)).mono ?_
      rintro e w4 ⟨v4, rfl, o, b⟩
      rw [iterL_succ HV.out] at o
      have HO4 := Lib.hid (o.mono hbe.out.size); have HB4 := Lib.hid (hbe.out.trans (b.mono hbe.out.size)); have H04 := Lib.hid (hr.out.below b); clear o b
      go_wp2_with fail
      go_roundw
      case rel => exact ⟨_, _, j + 1, rfl, rfl, by omega, by go_num, HO4, HB4, H04⟩
      case measure => simp [intOf]; omega
    · have hjk : j = k := by omega
      subst hjk
      go_wp2_with fail
      go_ret2
      exact ⟨_, rfl, ho.out, hbe.out⟩

set_option maxHeartbeats 800000 in
theorem spec_powR (w : World) (A0 : Option Addr) (c0 n0 : Nat) (xs0 : List Int) (h0 : Rd w A0 n0 xs0) (hn0 : n0 ≤ 1048576) (k : Int) (hw : (Lit.int .i64 k).wf = true) {ok : Bool} {ys : List Int} (hR : powR xs0 k = (ok, ys)) :
    Calls Try.prog 10 #[.slice A0 n0 c0, .int .i64 k] w fun e w' => ∃ v, e = .returned (.tuple #[v, .bool ok]) ∧ Own w' w.heap.size v ys ∧ Below w.heap.size w w' := by
  have H0 := Lib.hid h0; have HR := Lib.hid hR; have HW := Lib.hid hw; clear h0 hR hw
  by_cases hb : vld xs0 = true
  · by_cases hk : -1000 ≤ k ∧ k ≤ 1000
    · have HV := Lib.hid (Vld_of hb)
      have h12 : n0 ≤ 12 := by rw [← H0.out.1]; exact HV.out.2.1
      obtain ⟨rfl, rfl⟩ : ok = true ∧ ys = powL xs0 k := by have := HR.out; rw [powR, if_pos ⟨hb, hk⟩] at this; simpa [eq_comm] using this
      clear HR
      by_cases hneg : k < 0
      · have hin := inB_true (x := k) (lo := -1000) (hi := 1000) hk.1 hk.2
        have hd : decide (k < 0) = true := by simpa using hneg
        have HP := Lib.hid (powL_neg (p := xs0) hneg)
        obtain ⟨q, hq⟩ : ∃ q : Nat, q = (-k).toNat := ⟨_, rfl⟩
        have hkq : k = -(q : Int) := by omega
        have hq1 : q ≤ 1000 := by omega
        have hq0 : 1 ≤ q := by omega
        rw [← hq] at HP
        have HLB : Hid ((backL xs0).length = n0) := (backL_len _).trans H0.out.1
        subst hkq
        clear hq hk hneg
        go_enter Try.func10, Try.ntmps10
        go_wp2_with fail
        refine (specValid_b A0 n0 c0 xs0 w H0.out (by omega)).mono ?_
        rintro e w1 ⟨rfl, b⟩
        have HB := Lib.hid b; have H01 := Lib.hid (H0.out.below b); clear b
        go_wp2_with fail
        refine (l6In_any _ _ _ _).mono ?_
        rintro e w' ⟨rfl, rfl⟩
        go_wp2_with fail
        refine (l1Back_any A0 n0 c0 xs0 w1 H01.out hn0 HV.out).mono ?_
        rintro e w2 ⟨v, rfl, o, b⟩
        have HB2 := Lib.hid (HB.out.trans (b.mono HB.out.size)); clear b
        obtain ⟨A2, c2, rfl, r2, -⟩ := o.form' HLB.out
        have R2 := Lib.hid r2; clear r2 o
        go_wp2_with fail
        have hcon := specPow_pos w2 A2 c2 n0 (backL xs0) R2.out (backL_vld HV.out) q hq1
        have HCON := Lib.hid hcon; clear hcon
        refine HCON.out.mono ?_
        rintro e w3 ⟨v, rfl, o, b⟩
        rw [← HP.out] at o
        have HO := Lib.hid (o.mono HB2.out.size); have HB3 := Lib.hid (HB2.out.trans (b.mono HB2.out.size)); clear o b
        go_wp2_with fail
        go_ret2
        exact ⟨v, rfl, HO.out, HB3.out⟩
      · obtain ⟨q, rfl⟩ := Int.eq_ofNat_of_zero_le (show 0 ≤ k by omega)
        rw [powL_nonneg (by omega), Int.toNat_natCast]
        exact specPow_pos w A0 c0 n0 xs0 H0.out HV.out q (by omega)
    · obtain ⟨rfl, rfl⟩ : ok = false ∧ ys = [] := by have := HR.out; rw [powR, if_neg (fun h => hk h.2)] at this; simpa [eq_comm] using this
      have hin := inB_false (x := k) (lo := -1000) (hi := 1000) hk
      clear HR hk
      go_enter Try.func10, Try.ntmps10
      go_wp2_with fail
      refine (specValid_b A0 n0 c0 xs0 w H0.out (by omega)).mono ?_
      rintro e w1 ⟨rfl, b⟩
      have HB := Lib.hid b; clear b
      go_wp2_with fail
      refine (l6In_any _ _ _ _).mono ?_
      rintro e w' ⟨rfl, rfl⟩
      go_wp2_with fail
      go_ret2
      exact ⟨_, rfl, Own.empty HB.out.size, HB.out.alloc HB.out.size _⟩
  · have hb' : vld xs0 = false := by simpa using hb
    obtain ⟨rfl, rfl⟩ : ok = false ∧ ys = [] := by have := HR.out; rw [powR, if_neg (fun h => hb h.1)] at this; simpa [eq_comm] using this
    clear HR hb
    go_enter Try.func10, Try.ntmps10
    go_wp2_with fail
    refine (specValid_b A0 n0 c0 xs0 w H0.out (by omega)).mono ?_
    rintro e w1 ⟨rfl, b⟩
    have HB := Lib.hid b; clear b
    go_wp2_with fail
    go_ret2
    exact ⟨_, rfl, Own.empty HB.out.size, HB.out.alloc HB.out.size _⟩

end Go.Proofs.Ytppblbmnjglhbaa
