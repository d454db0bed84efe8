/-
  Classes of words: the model's and the program's.
-/
import Derived.Test.YtpmgeopakjcdgaaDoorWrdZ
import Derived.Test.YtpmgeopakjcdgaaDoorWrdT
namespace Go.Proofs.YtpmgeopakjcdgaaDoor
open Go.RowKit

theorem dec_lt {n : Nat} (h : n < 10) : Lib.decDigits n = [dgt n] := by rw [Lib.decDigits, dif_pos h]; rfl
theorem itoa_small (n : Nat) (hn : n < 10) (w : World) : Calls Tryd.prog 40 #[.int .i64 (n : Int)] w fun e w' => e = .returned (.string ⟨#[dgt n]⟩) ∧ w = w' :=
  (Tryd.strconv_Itoa_small n (by omega) w).mono fun _ _ h => ⟨by rw [h.1, dec_lt hn], h.2.symm⟩
/-- What a word lacks of the sphere. -/
noncomputable def lackN (l : List UInt8) : Nat := (2 - numN l).toNat
noncomputable def clsN (l : List UInt8) : List UInt8 := if sidedB l then [83, dgt (lackN l / 2)] else [80, dgt (lackN l)]
noncomputable def clsR (l : List UInt8) : List UInt8 := if wordB l then clsN l else []
theorem Word.lack {l : List UInt8} (h : Word l) : 2 - Go.Proofs.YtpmgeopakjcdgaaDoor.numN l = (lackN l : Int) ∧ lackN l ≤ 5 := by
  have h1 := h.numN
  have h2 := h.cor_le
  have h3 := h.len
  unfold lackN Go.Proofs.YtpmgeopakjcdgaaDoor.numN at *
  omega
theorem clsR_yes {l : List UInt8} (h : wordB l = true) : clsR l = clsN l := by rw [clsR, if_pos h]
theorem clsR_no {l : List UInt8} (h : wordB l = false) : clsR l = [] := by rw [clsR, if_neg (by simp [h])]

set_option maxHeartbeats 800000 in
theorem class_any (w : World) (s : ByteArray) (hw : Word s.data.toList) :
    Calls Tryd.prog 33 #[.string s] w fun e w' => e = .returned (.string ⟨(clsN s.data.toList).toArray⟩) ∧ Below w.heap.size w w' := by
  have HW := Lib.hid hw
  obtain ⟨hlk, hl5⟩ := hw.lack
  have hnb := hw.numN
  obtain ⟨m, hm⟩ : ∃ m, lackN s.data.toList = m := ⟨_, rfl⟩
  obtain ⟨x, hx⟩ : ∃ x, numN s.data.toList = x := ⟨_, rfl⟩
  obtain ⟨b, hb⟩ : ∃ b, sidedB s.data.toList = b := ⟨_, rfl⟩
  rw [hm] at hlk hl5
  rw [hx] at hlk hnb
  obtain ⟨h, hh⟩ : ∃ h, m / 2 = h := ⟨_, rfl⟩
  have hd : (m : Int) / 2 = (h : Int) := by omega
  have hd2 : (m : Int).tdiv 2 = (h : Int) := by rw [Int.tdiv_eq_ediv_of_nonneg (by omega)]; omega
  have HX := Lib.hid hx; have HB := Lib.hid hb; have HM := Lib.hid hm; have HH := Lib.hid hh
  have hh5 : h ≤ 5 := by omega
  clear hw hx hm hh hb
  cases b with
  | true =>
    go_enter Tryd.func33, Tryd.ntmps33
    go_wp2_with (first
      | (go_at_call 31; refine (sided_any _ s HW.out HB.out).mono ?_; rintro e w1 ⟨rfl, b⟩; have HB1 := Lib.hid b; clear b)
      | (go_at_call 28; refine (number_any _ s HW.out).mono ?_; rintro e w2 ⟨rfl, b⟩; rw [HX.out]; have HB2 := Lib.hid (HB1.out.trans (b.mono HB1.out.size)); clear b)
      | (go_at_call 40; refine (itoa_small h (by omega) _).mono ?_; rintro e w' ⟨rfl, rfl⟩))
    go_ret
    refine ⟨?_, HB2.out⟩
    refine ret_str ?_
    rw [clsN, if_pos HB.out, HM.out, HH.out, str_app]
    rfl
  | false =>
    go_enter Tryd.func33, Tryd.ntmps33
    go_wp2_with (first
      | (go_at_call 31; refine (sided_any _ s HW.out HB.out).mono ?_; rintro e w1 ⟨rfl, b⟩; have HB1 := Lib.hid b; clear b)
      | (go_at_call 28; refine (number_any _ s HW.out).mono ?_; rintro e w2 ⟨rfl, b⟩; rw [HX.out]; have HB2 := Lib.hid (HB1.out.trans (b.mono HB1.out.size)); clear b)
      | (go_at_call 40; refine (itoa_small m (by omega) _).mono ?_; rintro e w' ⟨rfl, rfl⟩))
    go_ret
    refine ⟨?_, HB2.out⟩
    refine ret_str ?_
    rw [clsN, if_neg (by rw [HB.out]; simp), HM.out, str_app]
    rfl

set_option maxHeartbeats 800000 in
theorem impl_clsR (w : World) (s : ByteArray) (hs : s.size ≤ 1048576) {r : List UInt8} (hR : clsR s.data.toList = r) :
    Calls Tryd.prog 16 #[.string s] w fun e w' => e = .returned (.string ⟨r.toArray⟩) ∧ Below w.heap.size w w' := by
  obtain ⟨b, hb⟩ : ∃ b, wordB s.data.toList = b := ⟨_, rfl⟩
  have HBB := Lib.hid hb
  cases b with
  | false =>
    have HR := Lib.hid ((clsR_no hb).symm.trans hR); clear hR hb
    go_enter Tryd.func16, Tryd.ntmps16
    go_wp2_with (go_at_call 26; refine (implWord_any s _ hs HBB.out).mono ?_; rintro e w1 ⟨rfl, b⟩; have HB1 := Lib.hid b; clear b)
    go_ret
    exact ⟨ret_str HR.out, HB1.out⟩
  | true =>
    have HR := Lib.hid ((clsR_yes hb).symm.trans hR)
    have HW := Lib.hid (wordB_iff.1 hb); clear hR hb
    go_enter Tryd.func16, Tryd.ntmps16
    go_wp2_with (first
      | (go_at_call 26; refine (implWord_any s _ hs HBB.out).mono ?_; rintro e w1 ⟨rfl, b⟩; have HB1 := Lib.hid b; clear b)
      | (go_at_call 33; refine (class_any _ s HW.out).mono ?_; rintro e w2 ⟨rfl, b⟩; rw [HR.out]; have HB2 := Lib.hid (HB1.out.trans (b.mono HB1.out.size)); clear b))
    go_ret
    exact ⟨rfl, HB2.out⟩

set_option maxHeartbeats 800000 in
theorem spec_clsR (w : World) (s : ByteArray) (hs : s.size ≤ 1048576) {r : List UInt8} (hR : clsR s.data.toList = r) :
    Calls Tryd.prog 15 #[.string s] w fun e w' => e = .returned (.string ⟨r.toArray⟩) ∧ Below w.heap.size w w' := by
  obtain ⟨b, hb⟩ : ∃ b, wordB s.data.toList = b := ⟨_, rfl⟩
  have HBB := Lib.hid hb
  cases b with
  | false =>
    have HR := Lib.hid ((clsR_no hb).symm.trans hR); clear hR hb
    go_enter Tryd.func15, Tryd.ntmps15
    go_wp2_with (go_at_call 24; refine (specWord_any s _ hs HBB.out).mono ?_; rintro e w' ⟨rfl, q1, rfl⟩)
    go_ret
    exact ⟨ret_str HR.out, below_drewN (Below.refl _ _) _⟩
  | true =>
    have hw := wordB_iff.1 hb
    have HR := Lib.hid ((clsR_yes hb).symm.trans hR)
    obtain ⟨hlk, hl5⟩ := hw.lack
    have hnb := hw.numN
    have HNR : Hid (numR s.data.toList = numN s.data.toList) := numR_yes hb
    obtain ⟨m, hm⟩ : ∃ m, lackN s.data.toList = m := ⟨_, rfl⟩
    obtain ⟨x, hx⟩ : ∃ x, numN s.data.toList = x := ⟨_, rfl⟩
    obtain ⟨b, hbs⟩ : ∃ b, sidedB s.data.toList = b := ⟨_, rfl⟩
    rw [hm] at hlk hl5
    rw [hx] at hlk hnb HNR
    obtain ⟨h, hh⟩ : ∃ h, m / 2 = h := ⟨_, rfl⟩
    have hd : (m : Int) / 2 = (h : Int) := by omega
    have hd2 : (m : Int).tdiv 2 = (h : Int) := by rw [Int.tdiv_eq_ediv_of_nonneg (by omega)]; omega
    have HB : Hid (sidR s.data.toList = b) := hbs
    have HS := Lib.hid hbs; have HM := Lib.hid hm; have HH := Lib.hid hh
    have hh5 : h ≤ 5 := by omega
    clear hw hx hm hh hbs hR hb
    cases b with
    | true =>
      go_enter Tryd.func15, Tryd.ntmps15
      go_wp2_with (first
        | (go_at_call 24; refine (specWord_any s _ hs HBB.out).mono ?_; rintro e w' ⟨rfl, q1, rfl⟩)
        | (go_at_call 13; refine (specSided_any _ s hs HB.out).mono ?_; rintro e w' ⟨rfl, q2, rfl⟩)
        | (go_at_call 11; refine (spec_numR _ s hs HNR.out).mono ?_; rintro e w2 ⟨rfl, b⟩; have HB2 : Hid (Below w.heap.size w w2) := below_undrewN b; clear b)
        | (go_at_call 32; refine (l6Dec_small h _ (by omega)).mono ?_; rintro e w3 ⟨rfl, b⟩; have HB3 := Lib.hid (HB2.out.trans (b.mono HB2.out.size)); clear b))
      go_ret
      refine ⟨ret_str ?_, HB3.out⟩
      rw [← HR.out, clsN, if_pos HS.out, HM.out, HH.out, str_app]
      rfl
    | false =>
      go_enter Tryd.func15, Tryd.ntmps15
      go_wp2_with (first
        | (go_at_call 24; refine (specWord_any s _ hs HBB.out).mono ?_; rintro e w' ⟨rfl, q1, rfl⟩)
        | (go_at_call 13; refine (specSided_any _ s hs HB.out).mono ?_; rintro e w' ⟨rfl, q2, rfl⟩)
        | (go_at_call 11; refine (spec_numR _ s hs HNR.out).mono ?_; rintro e w2 ⟨rfl, b⟩; have HB2 : Hid (Below w.heap.size w w2) := below_undrewN b; clear b)
        | (go_at_call 32; refine (l6Dec_small m _ (by omega)).mono ?_; rintro e w3 ⟨rfl, b⟩; have HB3 := Lib.hid (HB2.out.trans (b.mono HB2.out.size)); clear b))
      go_ret
      refine ⟨ret_str ?_, HB3.out⟩
      rw [← HR.out, clsN, if_neg (by rw [HS.out]; simp), HM.out, str_app]
      rfl

end Go.Proofs.YtpmgeopakjcdgaaDoor
