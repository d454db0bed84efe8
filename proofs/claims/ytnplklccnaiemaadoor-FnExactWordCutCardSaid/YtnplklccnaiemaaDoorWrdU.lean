/-
  Words cut and glued anew: the program's answer.
-/
import Derived.Test.YtnplklccnaiemaaDoorWrdQr
namespace Go.Proofs.YtnplklccnaiemaaDoor
open Go.RowKit

theorem byte_eqC {l : List UInt8} (h : Word l) {i : Nat} (hi : i < l.length) : (((gb l i).toNat : Int) == ((gb l (par l i)).toNat : Int)) = (sml (gb l i) == sml (gb l (par l i))) := by
  have hle := (h.isPar hi).eq
  have h0 := (h.ok i hi).1
  by_cases es : sml (gb l i) = sml (gb l (par l i))
  · rw [ltr_eq hle.symm es h0]; simp
  · have e1 : (sml (gb l i) == sml (gb l (par l i))) = false := by simpa using es
    rw [e1, beq_eq_false_iff_ne]
    intro e
    exact es (by rw [UInt8.toNat_inj.1 (show (gb l i).toNat = (gb l (par l i)).toNat by omega)])
theorem cutWR_yes {l : List UInt8} {i k : Int} (h : cutOk l i k = true) : cutWR l i k = (true, cutW l i.toNat k.toNat) := by rw [cutWR, h]; rfl
theorem cutWR_no {l : List UInt8} {i k : Int} (h : cutOk l i k = false) : cutWR l i k = (false, []) := by rw [cutWR, h]; rfl
theorem cutOk_word {l : List UInt8} {i k : Int} (h : wordB l = false) : cutOk l i k = false := by rw [cutOk, h]; rfl
theorem cutOk_at {l : List UInt8} {i k : Int} (h : ¬ (1 ≤ i ∧ i ≤ (l.length : Int) - 1 ∧ 0 ≤ k ∧ k ≤ i - 1)) : cutOk l i k = false := by
  rw [Bool.eq_false_iff]
  intro e
  simp only [cutOk, Bool.and_eq_true, decide_eq_true_eq] at e
  exact h ⟨e.1.1.2.1, e.1.1.2.2, e.1.2.1, e.1.2.2⟩
theorem cutOk_par {l : List UInt8} {i k : Nat} (h : ¬ i ≤ par l k) : cutOk l i k = false := by
  rw [Bool.eq_false_iff]
  intro e
  simp only [cutOk, Bool.and_eq_true, decide_eq_true_eq, Int.toNat_natCast] at e
  omega
theorem cutOk_yes {l : List UInt8} {i k : Nat} (hw : wordB l = true) (h1 : 1 ≤ i) (h2 : i < l.length) (h3 : k < i) (h : i ≤ par l k) : cutOk l i k = true := by
  simp only [cutOk, hw, Bool.and_eq_true, decide_eq_true_eq, Int.toNat_natCast, Bool.true_and]
  omega

set_option maxRecDepth 100000 in
set_option maxHeartbeats 1600000 in
theorem impl_cutWR (w : World) (s : ByteArray) (hs : s.size ≤ 1048576) (i : Int) (_hwi : (Lit.int .i64 i).wf = true) (k : Int) (_hwk : (Lit.int .i64 k).wf = true) {ok : Bool} {r : List UInt8} (hR : cutWR s.data.toList i k = (ok, r)) :
    Calls Tryd.prog 12 #[.string s, .int .i64 i, .int .i64 k] w fun e w' => e = .returned (.tuple #[.string ⟨r.toArray⟩, .bool ok]) ∧ Below w.heap.size w w' := by
  by_cases ha : wordB s.data.toList = true
  · have HA : Hid (wordB s.data.toList = true) := ha
    have hw := wordB_iff.1 ha
    have hlen := hw.len
    rw [len_str] at hlen
    by_cases hin : 1 ≤ i ∧ i ≤ (s.data.toList.length : Int) - 1 ∧ 0 ≤ k ∧ k ≤ i - 1
    · rw [len_str] at hin
      obtain ⟨h1, h2, h3, h4⟩ := hin
      obtain ⟨i, rfl⟩ := Int.eq_ofNat_of_zero_le (show 0 ≤ i by omega)
      obtain ⟨k, rfl⟩ := Int.eq_ofNat_of_zero_le h3
      have hks : k < s.size := by omega
      have hkl : k < s.data.toList.length := by rw [len_str]; exact hks
      obtain ⟨m, hm⟩ : ∃ m, par s.data.toList k = m := ⟨_, rfl⟩
      have hml := (hw.isPar hkl).lt
      rw [hm, len_str] at hml
      have HM := Lib.hid hm
      have HW := Lib.hid hw
      have HKL := Lib.hid hkl


      by_cases him : i ≤ m
      · have h := (cutWR_yes (cutOk_yes (i := i) (k := k) ha (by omega) (by rw [len_str]; omega) (by omega) (by rw [hm]; exact him))).symm.trans hR
        simp only [Prod.mk.injEq, Int.toNat_natCast] at h
        obtain ⟨rfl, e⟩ := h
        have HE := Lib.hid e
        have hP : Hid (Parts s.data.toList i k m (m - i)) := ⟨by omega, him, by rw [len_str]; exact hml, by rw [len_str]; omega, by omega⟩
        have h0 := Lib.hid (hw.ok k hkl).1
        have hb := byte_eqC hw hkl
        rw [hm] at hb
        have HC := Lib.hid (fun W => recut_any s W i k m (m - i) _ hP.out hks hml h0.out rfl (by rw [← gb_at s hks, ← gb_at s hml]; exact hb) hm)
        clear hR ha e hw hm hb hkl
        go_enter Tryd.func12, Tryd.ntmps12
        go_wp2_with fail
        refine (implWord_any s _ hs HA.out).mono ?_
        rintro e w1 ⟨rfl, b1⟩
        have HB1 := Lib.hid b1; clear b1
        go_wp2_with fail
        refine (partners_any s _ HW.out).mono ?_
        rintro e w2 ⟨v, rfl, o, b⟩
        have hpl : (parL s.data.toList).length = s.size := (parL_len _).trans (len_str s)
        obtain ⟨Ap, cp, rfl, -, -⟩ := o.form' hpl
        obtain ⟨gp, rfl, hgp, hc, -⟩ := o.cellAt hpl (k := k) (by omega)
        rw [parL, gi_tab HKL.out, HM.out] at hc
        have HB2 := Lib.hid (HB1.out.trans (b.mono HB1.out.size)); clear b hpl o
        go_wp2_with fail
        refine (HC.out _).mono ?_
        rintro e w3 ⟨rfl, b⟩
        have HB3 := Lib.hid (HB2.out.trans (b.mono HB2.out.size)); clear b
        go_wp2_with fail
        go_ret2
        obtain rfl : cutW s.data.toList i k = r := HE.out
        exact ⟨rfl, HB3.out⟩
      · have h := (cutWR_no (cutOk_par (i := i) (k := k) (by rw [hm]; exact him))).symm.trans hR
        simp only [Prod.mk.injEq] at h
        obtain ⟨rfl, rfl⟩ := h
        clear hR ha hw hm hkl
        go_enter Tryd.func12, Tryd.ntmps12
        go_wp2_with fail
        refine (implWord_any s _ hs HA.out).mono ?_
        rintro e w1 ⟨rfl, b1⟩
        have HB1 := Lib.hid b1; clear b1
        go_wp2_with fail
        refine (partners_any s _ HW.out).mono ?_
        rintro e w2 ⟨v, rfl, o, b⟩
        have hpl : (parL s.data.toList).length = s.size := (parL_len _).trans (len_str s)
        obtain ⟨Ap, cp, rfl, -, -⟩ := o.form' hpl
        obtain ⟨gp, rfl, hgp, hc, -⟩ := o.cellAt hpl (k := k) (by omega)
        rw [parL, gi_tab HKL.out, HM.out] at hc
        have HB2 := Lib.hid (HB1.out.trans (b.mono HB1.out.size)); clear b hpl o
        go_wp2_with fail
        go_ret2
        exact ⟨rfl, HB2.out⟩
    · have h := (cutWR_no (cutOk_at hin)).symm.trans hR
      rw [len_str] at hin
      simp only [Prod.mk.injEq] at h
      obtain ⟨rfl, rfl⟩ := h
      clear hR ha hw
      have hbad : i < 1 ∨ (1 ≤ i ∧ (s.size : Int) ≤ i) ∨ (1 ≤ i ∧ i < s.size ∧ k < 0) ∨ (1 ≤ i ∧ i < s.size ∧ 0 ≤ k ∧ i ≤ k) := by omega
      clear hin
      rcases hbad with h | ⟨h, h'⟩ | ⟨h, h', h''⟩ | ⟨h, h', h'', h3⟩
      all_goals
        go_enter Tryd.func12, Tryd.ntmps12
        go_wp2_with fail
        refine (implWord_any s _ hs HA.out).mono ?_
        rintro e w1 ⟨rfl, b1⟩
        have HB1 := Lib.hid b1; clear b1
        go_wp2_with fail
        go_ret2
        exact ⟨rfl, HB1.out⟩
  · have ha' : wordB s.data.toList = false := by simpa using ha
    have HA : Hid (wordB s.data.toList = false) := ha'
    have h := (cutWR_no (cutOk_word (i := i) (k := k) ha')).symm.trans hR
    simp only [Prod.mk.injEq] at h
    obtain ⟨rfl, rfl⟩ := h
    clear hR ha ha'
    go_enter Tryd.func12, Tryd.ntmps12
    go_wp2_with fail
    refine (implWord_any s _ hs HA.out).mono ?_
    rintro e w1 ⟨rfl, b1⟩
    have HB1 := Lib.hid b1; clear b1
    go_wp2_with fail
    go_ret2
    exact ⟨rfl, HB1.out⟩

end Go.Proofs.YtnplklccnaiemaaDoor
