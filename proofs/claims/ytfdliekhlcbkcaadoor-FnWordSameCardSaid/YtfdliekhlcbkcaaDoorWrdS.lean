/-
  Classes of words: the model's and the program's.
  Words of one class: the model's and the program's.
-/
import Derived.Test.YtfdliekhlcbkcaaDoorWrdZ
import Derived.Test.YtfdliekhlcbkcaaDoorWrdR
namespace Go.Proofs.YtfdliekhlcbkcaaDoor
open Go.RowKit

theorem dec_lt {n : Nat} (h : n < 10) : Lib.decDigits n = [dgt n] := by rw [Lib.decDigits, dif_pos h]; rfl
theorem itoa_small (n : Nat) (hn : n < 10) (w : World) : Calls Tryd.prog 102 #[.int .i64 (n : Int)] w fun e w' => e = .returned (.string ⟨#[dgt n]⟩) ∧ w = w' :=
  (Tryd.strconv_Itoa_small n (by omega) w).mono fun _ _ h => ⟨by rw [h.1, dec_lt hn], h.2.symm⟩
/-- What a word lacks of the sphere. -/
noncomputable def lackN (l : List UInt8) : Nat := (2 - numN l).toNat
noncomputable def clsN (l : List UInt8) : List UInt8 := if sidedB l then [83, dgt (lackN l / 2)] else [80, dgt (lackN l)]
noncomputable def clsR (l : List UInt8) : List UInt8 := if wordB l then clsN l else []
theorem Word.lack {l : List UInt8} (h : Word l) : 2 - Go.Proofs.YtfdliekhlcbkcaaDoor.numN l = (lackN l : Int) ∧ lackN l ≤ 5 := by
  have h1 := h.numN
  have h2 := h.cor_le
  have h3 := h.len
  unfold lackN Go.Proofs.YtfdliekhlcbkcaaDoor.numN at *
  omega
theorem clsR_yes {l : List UInt8} (h : wordB l = true) : clsR l = clsN l := by rw [clsR, if_pos h]
theorem clsR_no {l : List UInt8} (h : wordB l = false) : clsR l = [] := by rw [clsR, if_neg (by simp [h])]

set_option maxHeartbeats 800000 in
theorem class_any (w : World) (s : ByteArray) (hw : Word s.data.toList) :
    Calls Tryd.prog 66 #[.string s] w fun e w' => e = .returned (.string ⟨(clsN s.data.toList).toArray⟩) ∧ Below w.heap.size w w' := by
  have HW := Lib.hid hw
  obtain ⟨hlk, hl5⟩ := hw.lack
  have hnb := hw.numN
  obtain ⟨m, hm⟩ : ∃ m, lackN s.data.toList = m := ⟨_, rfl⟩
  obtain ⟨x, hx⟩ : ∃ x, numN s.data.toList = x := ⟨_, rfl⟩
  obtain ⟨b, hb⟩ : ∃ b, sidedB s.data.toList = b := ⟨_, rfl⟩
  rw [hm] at hlk hl5
  rw [hx] at hlk hnb
  obtain ⟨h, hh⟩ : ∃ h, m / 2 = h := ⟨_, rfl⟩
  have hd : (m : Int) / 2 = (h : Int) := by omega
  have hd2 : (m : Int).tdiv 2 = (h : Int) := by rw [Int.tdiv_eq_ediv_of_nonneg (by omega)]; omega
  have HX := Lib.hid hx; have HB := Lib.hid hb; have HM := Lib.hid hm; have HH := Lib.hid hh
  have hh5 : h ≤ 5 := by omega
  clear hw hx hm hh hb
  cases b with
  | true =>
    go_enter Tryd.func66, Tryd.ntmps66
    go_wp2_with (first
      | (go_at_call 59; refine (sided_any _ s HW.out HB.out).mono ?_; rintro e w1 ⟨rfl, b⟩; have HB1 := Lib.hid b; clear b)
      | (go_at_call 62; refine (number_any _ s HW.out).mono ?_; rintro e w2 ⟨rfl, b⟩; rw [HX.out]; have HB2 := Lib.hid (HB1.out.trans (b.mono HB1.out.size)); clear b)
      | (go_at_call 102; refine (itoa_small h (by omega) _).mono ?_; rintro e w' ⟨rfl, rfl⟩))
    go_ret
    refine ⟨?_, HB2.out⟩
    refine ret_str ?_
    rw [clsN, if_pos HB.out, HM.out, HH.out, str_app]
    rfl
  | false =>
    go_enter Tryd.func66, Tryd.ntmps66
    go_wp2_with (first
      | (go_at_call 59; refine (sided_any _ s HW.out HB.out).mono ?_; rintro e w1 ⟨rfl, b⟩; have HB1 := Lib.hid b; clear b)
      | (go_at_call 62; refine (number_any _ s HW.out).mono ?_; rintro e w2 ⟨rfl, b⟩; rw [HX.out]; have HB2 := Lib.hid (HB1.out.trans (b.mono HB1.out.size)); clear b)
      | (go_at_call 102; refine (itoa_small m (by omega) _).mono ?_; rintro e w' ⟨rfl, rfl⟩))
    go_ret
    refine ⟨?_, HB2.out⟩
    refine ret_str ?_
    rw [clsN, if_neg (by rw [HB.out]; simp), HM.out, str_app]
    rfl

set_option maxHeartbeats 800000 in
theorem impl_clsR (w : World) (s : ByteArray) (hs : s.size ≤ 1048576) {r : List UInt8} (hR : clsR s.data.toList = r) :
    Calls Tryd.prog 27 #[.string s] w fun e w' => e = .returned (.string ⟨r.toArray⟩) ∧ Below w.heap.size w w' := by
  obtain ⟨b, hb⟩ : ∃ b, wordB s.data.toList = b := ⟨_, rfl⟩
  have HBB := Lib.hid hb
  cases b with
  | false =>
    have HR := Lib.hid ((clsR_no hb).symm.trans hR); clear hR hb
    go_enter Tryd.func27, Tryd.ntmps27
    go_wp2_with (go_at_call 39; refine (implWord_any s _ hs HBB.out).mono ?_; rintro e w1 ⟨rfl, b⟩; have HB1 := Lib.hid b; clear b)
    go_ret
    exact ⟨ret_str HR.out, HB1.out⟩
  | true =>
    have HR := Lib.hid ((clsR_yes hb).symm.trans hR)
    have HW := Lib.hid (wordB_iff.1 hb); clear hR hb
    go_enter Tryd.func27, Tryd.ntmps27
    go_wp2_with (first
      | (go_at_call 39; refine (implWord_any s _ hs HBB.out).mono ?_; rintro e w1 ⟨rfl, b⟩; have HB1 := Lib.hid b; clear b)
      | (go_at_call 66; refine (class_any _ s HW.out).mono ?_; rintro e w2 ⟨rfl, b⟩; rw [HR.out]; have HB2 := Lib.hid (HB1.out.trans (b.mono HB1.out.size)); clear b))
    go_ret
    exact ⟨rfl, HB2.out⟩

set_option maxHeartbeats 800000 in
theorem spec_clsR (w : World) (s : ByteArray) (hs : s.size ≤ 1048576) {r : List UInt8} (hR : clsR s.data.toList = r) :
    Calls Tryd.prog 28 #[.string s] w fun e w' => e = .returned (.string ⟨r.toArray⟩) ∧ Below w.heap.size w w' := by
  obtain ⟨b, hb⟩ : ∃ b, wordB s.data.toList = b := ⟨_, rfl⟩
  have HBB := Lib.hid hb
  cases b with
  | false =>
    have HR := Lib.hid ((clsR_no hb).symm.trans hR); clear hR hb
    go_enter Tryd.func28, Tryd.ntmps28
    go_wp2_with (go_at_call 50; refine (specWord_any s _ hs HBB.out).mono ?_; rintro e w' ⟨rfl, q1, rfl⟩)
    go_ret
    exact ⟨ret_str HR.out, below_drewN (Below.refl _ _) _⟩
  | true =>
    have hw := wordB_iff.1 hb
    have HR := Lib.hid ((clsR_yes hb).symm.trans hR)
    obtain ⟨hlk, hl5⟩ := hw.lack
    have hnb := hw.numN
    have HNR : Hid (numR s.data.toList = numN s.data.toList) := numR_yes hb
    obtain ⟨m, hm⟩ : ∃ m, lackN s.data.toList = m := ⟨_, rfl⟩
    obtain ⟨x, hx⟩ : ∃ x, numN s.data.toList = x := ⟨_, rfl⟩
    obtain ⟨b, hbs⟩ : ∃ b, sidedB s.data.toList = b := ⟨_, rfl⟩
    rw [hm] at hlk hl5
    rw [hx] at hlk hnb HNR
    obtain ⟨h, hh⟩ : ∃ h, m / 2 = h := ⟨_, rfl⟩
    have hd : (m : Int) / 2 = (h : Int) := by omega
    have hd2 : (m : Int).tdiv 2 = (h : Int) := by rw [Int.tdiv_eq_ediv_of_nonneg (by omega)]; omega
    have HB : Hid (sidR s.data.toList = b) := hbs
    have HS := Lib.hid hbs; have HM := Lib.hid hm; have HH := Lib.hid hh
    have hh5 : h ≤ 5 := by omega
    clear hw hx hm hh hbs hR hb
    cases b with
    | true =>
      go_enter Tryd.func28, Tryd.ntmps28
      go_wp2_with (first
        | (go_at_call 50; refine (specWord_any s _ hs HBB.out).mono ?_; rintro e w' ⟨rfl, q1, rfl⟩)
        | (go_at_call 67; refine (specSided_any _ s hs HB.out).mono ?_; rintro e w' ⟨rfl, q2, rfl⟩)
        | (go_at_call 23; refine (spec_numR _ s hs HNR.out).mono ?_; rintro e w2 ⟨rfl, b⟩; have HB2 : Hid (Below w.heap.size w w2) := below_undrewN b; clear b)
        | (go_at_call 68; refine (l6Dec_small h _ (by omega)).mono ?_; rintro e w3 ⟨rfl, b⟩; have HB3 := Lib.hid (HB2.out.trans (b.mono HB2.out.size)); clear b))
      go_ret
      refine ⟨ret_str ?_, HB3.out⟩
      rw [← HR.out, clsN, if_pos HS.out, HM.out, HH.out, str_app]
      rfl
    | false =>
      go_enter Tryd.func28, Tryd.ntmps28
      go_wp2_with (first
        | (go_at_call 50; refine (specWord_any s _ hs HBB.out).mono ?_; rintro e w' ⟨rfl, q1, rfl⟩)
        | (go_at_call 67; refine (specSided_any _ s hs HB.out).mono ?_; rintro e w' ⟨rfl, q2, rfl⟩)
        | (go_at_call 23; refine (spec_numR _ s hs HNR.out).mono ?_; rintro e w2 ⟨rfl, b⟩; have HB2 : Hid (Below w.heap.size w w2) := below_undrewN b; clear b)
        | (go_at_call 68; refine (l6Dec_small m _ (by omega)).mono ?_; rintro e w3 ⟨rfl, b⟩; have HB3 := Lib.hid (HB2.out.trans (b.mono HB2.out.size)); clear b))
      go_ret
      refine ⟨ret_str ?_, HB3.out⟩
      rw [← HR.out, clsN, if_neg (by rw [HS.out]; simp), HM.out, str_app]
      rfl

end Go.Proofs.YtfdliekhlcbkcaaDoor

namespace Go.Proofs.YtfdliekhlcbkcaaDoor
open Go.RowKit

noncomputable def sameR (a b : List UInt8) : Bool := wordB a && wordB b && decide (clsR a = clsR b)
theorem specWordB (w : World) (s : ByteArray) (hs : s.size ≤ 1048576) {r : Bool} (hR : wordB s.data.toList = r) :
    Calls Tryd.prog 50 #[.string s] w fun e w' => e = .returned (.bool r) ∧ Below w.heap.size w w' :=
  (specWord_any s w hs hR).mono fun _ _ ⟨he, k, hw⟩ => ⟨he, hw ▸ below_drewN (Below.refl _ _) k⟩
theorem list_beq {x y : List UInt8} : (x == y) = decide (x = y) := by rw [Bool.eq_iff_iff, beq_iff_eq, decide_eq_true_eq]

set_option maxHeartbeats 1600000 in
theorem impl_sameR (w : World) (a : ByteArray) (hs : a.size ≤ 1048576) (b : ByteArray) (hs' : b.size ≤ 1048576) {r : Bool} (hR : sameR a.data.toList b.data.toList = r) :
    Calls Tryd.prog 32 #[.string a, .string b] w fun e w' => e = .returned (.bool r) ∧ Below w.heap.size w w' := by
  by_cases ha : wordB a.data.toList = true
  · have HA : Hid (wordB a.data.toList = true) := ha
    by_cases hb : wordB b.data.toList = true
    · have HB : Hid (wordB b.data.toList = true) := hb
      obtain ⟨x, hx⟩ : ∃ x, clsR a.data.toList = x := ⟨_, rfl⟩
      obtain ⟨y, hy⟩ : ∃ y, clsR b.data.toList = y := ⟨_, rfl⟩
      have hxy : (x == y) = r := by rw [list_beq, ← hR, sameR, ha, hb, hx, hy]; rfl
      have HWA := Lib.hid (wordB_iff.1 ha); have HWB := Lib.hid (wordB_iff.1 hb)
      have HCA : Hid (clsN a.data.toList = x) := (clsR_yes ha).symm.trans hx
      have HCB : Hid (clsN b.data.toList = y) := (clsR_yes hb).symm.trans hy
      clear hR ha hb hx hy
      go_enter Tryd.func32, Tryd.ntmps32
      go_wp2_with (first
        | (go_at_call_of 39 (Value.string a); refine (implWord_any a _ hs HA.out).mono ?_; rintro e w1 ⟨rfl, b1⟩; have HB1 := Lib.hid b1; clear b1)
        | (go_at_call_of 39 (Value.string b); refine (implWord_any b _ hs' HB.out).mono ?_; rintro e w2 ⟨rfl, b1⟩; have HB2 := Lib.hid (HB1.out.trans (b1.mono HB1.out.size)); clear b1)
        | (go_at_call_of 66 (Value.string a); refine (class_any _ a HWA.out).mono ?_; rintro e w3 ⟨rfl, b1⟩; rw [HCA.out]; have HB3 := Lib.hid (HB2.out.trans (b1.mono HB2.out.size)); clear b1)
        | (go_at_call_of 66 (Value.string b); refine (class_any _ b HWB.out).mono ?_; rintro e w4 ⟨rfl, b1⟩; rw [HCB.out]; have HB4 := Lib.hid (HB3.out.trans (b1.mono HB3.out.size)); clear b1))
      go_ret
      exact ⟨rfl, HB4.out⟩
    · have hb' : wordB b.data.toList = false := by simpa using hb
      have HB : Hid (wordB b.data.toList = false) := hb'
      have HR : Hid (r = false) := by rw [Hid, ← hR, sameR, hb', Bool.and_false, Bool.false_and]
      clear hR ha hb hb'
      go_enter Tryd.func32, Tryd.ntmps32
      go_wp2_with (first
        | (go_at_call_of 39 (Value.string a); refine (implWord_any a _ hs HA.out).mono ?_; rintro e w1 ⟨rfl, b1⟩; have HB1 := Lib.hid b1; clear b1)
        | (go_at_call_of 39 (Value.string b); refine (implWord_any b _ hs' HB.out).mono ?_; rintro e w2 ⟨rfl, b1⟩; have HB2 := Lib.hid (HB1.out.trans (b1.mono HB1.out.size)); clear b1))
      go_ret
      exact ⟨ret_boolE HR.out.symm, HB2.out⟩
  · have ha' : wordB a.data.toList = false := by simpa using ha
    have HA : Hid (wordB a.data.toList = false) := ha'
    have HR : Hid (r = false) := by rw [Hid, ← hR, sameR, ha', Bool.false_and, Bool.false_and]
    clear hR ha ha'
    go_enter Tryd.func32, Tryd.ntmps32
    go_wp2_with (go_at_call_of 39 (Value.string a); refine (implWord_any a _ hs HA.out).mono ?_; rintro e w1 ⟨rfl, b1⟩; have HB1 := Lib.hid b1; clear b1)
    go_ret
    exact ⟨ret_boolE HR.out.symm, HB1.out⟩

set_option maxHeartbeats 1600000 in
theorem spec_sameR (w : World) (a : ByteArray) (hs : a.size ≤ 1048576) (b : ByteArray) (hs' : b.size ≤ 1048576) {r : Bool} (hR : sameR a.data.toList b.data.toList = r) :
    Calls Tryd.prog 41 #[.string a, .string b] w fun e w' => e = .returned (.bool r) ∧ Below w.heap.size w w' := by
  by_cases ha : wordB a.data.toList = true
  · have HA : Hid (wordB a.data.toList = true) := ha
    by_cases hb : wordB b.data.toList = true
    · have HB : Hid (wordB b.data.toList = true) := hb
      obtain ⟨x, hx⟩ : ∃ x, clsR a.data.toList = x := ⟨_, rfl⟩
      obtain ⟨y, hy⟩ : ∃ y, clsR b.data.toList = y := ⟨_, rfl⟩
      have hxy : (x == y) = r := by rw [list_beq, ← hR, sameR, ha, hb, hx, hy]; rfl
      have HWA := Lib.hid (wordB_iff.1 ha); have HWB := Lib.hid (wordB_iff.1 hb)
      have HCA : Hid (clsR a.data.toList = x) := hx
      have HCB : Hid (clsR b.data.toList = y) := hy
      clear hR ha hb hx hy
      go_enter Tryd.func41, Tryd.ntmps41
      go_wp2_with (first
        | (go_at_call_of 50 (Value.string a); refine (specWordB _ a hs HA.out).mono ?_; rintro e w1 ⟨rfl, b1⟩; have HB1 := Lib.hid b1; clear b1)
        | (go_at_call_of 50 (Value.string b); refine (specWordB _ b hs' HB.out).mono ?_; rintro e w2 ⟨rfl, b1⟩; have HB2 := Lib.hid (HB1.out.trans (b1.mono HB1.out.size)); clear b1)
        | (go_at_call_of 28 (Value.string a); refine (spec_clsR _ a hs HCA.out).mono ?_; rintro e w3 ⟨rfl, b1⟩; have HB3 := Lib.hid (HB2.out.trans (b1.mono HB2.out.size)); clear b1)
        | (go_at_call_of 28 (Value.string b); refine (spec_clsR _ b hs' HCB.out).mono ?_; rintro e w4 ⟨rfl, b1⟩; have HB4 := Lib.hid (HB3.out.trans (b1.mono HB3.out.size)); clear b1))
      go_ret
      exact ⟨rfl, HB4.out⟩
    · have hb' : wordB b.data.toList = false := by simpa using hb
      have HB : Hid (wordB b.data.toList = false) := hb'
      have HR : Hid (r = false) := by rw [Hid, ← hR, sameR, hb', Bool.and_false, Bool.false_and]
      clear hR ha hb hb'
      go_enter Tryd.func41, Tryd.ntmps41
      go_wp2_with (first
        | (go_at_call_of 50 (Value.string a); refine (specWordB _ a hs HA.out).mono ?_; rintro e w1 ⟨rfl, b1⟩; have HB1 := Lib.hid b1; clear b1)
        | (go_at_call_of 50 (Value.string b); refine (specWordB _ b hs' HB.out).mono ?_; rintro e w2 ⟨rfl, b1⟩; have HB2 := Lib.hid (HB1.out.trans (b1.mono HB1.out.size)); clear b1))
      go_ret
      exact ⟨ret_boolE HR.out.symm, HB2.out⟩
  · have ha' : wordB a.data.toList = false := by simpa using ha
    have HA : Hid (wordB a.data.toList = false) := ha'
    have HR : Hid (r = false) := by rw [Hid, ← hR, sameR, ha', Bool.false_and, Bool.false_and]
    clear hR ha ha'
    go_enter Tryd.func41, Tryd.ntmps41
    go_wp2_with (go_at_call_of 50 (Value.string a); refine (specWordB _ a hs HA.out).mono ?_; rintro e w1 ⟨rfl, b1⟩; have HB1 := Lib.hid b1; clear b1)
    go_ret
    exact ⟨ret_boolE HR.out.symm, HB1.out⟩

end Go.Proofs.YtfdliekhlcbkcaaDoor
