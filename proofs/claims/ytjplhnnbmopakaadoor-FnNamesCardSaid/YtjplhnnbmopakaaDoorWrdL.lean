/-
  Classes of words: the model's and the program's.
-/
import Derived.Test.YtjplhnnbmopakaaDoorWrdZ
import Derived.Test.YtjplhnnbmopakaaDoorWrdT
namespace Go.Proofs.YtjplhnnbmopakaaDoor
open Go.RowKit

theorem dec_lt {n : Nat} (h : n < 10) : Lib.decDigits n = [dgt n] := by rw [Lib.decDigits, dif_pos h]; rfl
theorem itoa_small (n : Nat) (hn : n < 10) (w : World) : Calls Tryd.prog 43 #[.int .i64 (n : Int)] w fun e w' => e = .returned (.string ⟨#[dgt n]⟩) ∧ w = w' :=
  (Tryd.strconv_Itoa_small n (by omega) w).mono fun _ _ h => ⟨by rw [h.1, dec_lt hn], h.2.symm⟩
/-- What a word lacks of the sphere. -/
noncomputable def lackN (l : List UInt8) : Nat := (2 - numN l).toNat
noncomputable def clsN (l : List UInt8) : List UInt8 := if sidedB l then [83, dgt (lackN l / 2)] else [80, dgt (lackN l)]
noncomputable def clsR (l : List UInt8) : List UInt8 := if wordB l then clsN l else []
theorem Word.lack {l : List UInt8} (h : Word l) : 2 - Go.Proofs.YtjplhnnbmopakaaDoor.numN l = (lackN l : Int) ∧ lackN l ≤ 5 := by
  have h1 := h.numN
  have h2 := h.cor_le
  have h3 := h.len
  unfold lackN Go.Proofs.YtjplhnnbmopakaaDoor.numN at *
  omega
theorem clsR_yes {l : List UInt8} (h : wordB l = true) : clsR l = clsN l := by rw [clsR, if_pos h]
theorem clsR_no {l : List UInt8} (h : wordB l = false) : clsR l = [] := by rw [clsR, if_neg (by simp [h])]

set_option maxHeartbeats 800000 in
theorem class_any (w : World) (s : ByteArray) (hw : Word s.data.toList) :
    Calls Tryd.prog 32 #[.string s] w fun e w' => e = .returned (.string ⟨(clsN s.data.toList).toArray⟩) ∧ Below w.heap.size w w' := by
  have HW := Lib.hid hw
  obtain ⟨hlk, hl5⟩ := hw.lack
  have hnb := hw.numN
  obtain ⟨m, hm⟩ : ∃ m, lackN s.data.toList = m := ⟨_, rfl⟩
  obtain ⟨x, hx⟩ : ∃ x, numN s.data.toList = x := ⟨_, rfl⟩
  obtain ⟨b, hb⟩ : ∃ b, sidedB s.data.toList = b := ⟨_, rfl⟩
  rw [hm] at hlk hl5
  rw [hx] at hlk hnb
  obtain ⟨h, hh⟩ : ∃ h, m / 2 = h := ⟨_, rfl⟩
  have hd : (m : Int) / 2 = (h : Int) := by omega
  have hd2 : (m : Int).tdiv 2 = (h : Int) := by rw [Int.tdiv_eq_ediv_of_nonneg (by omega)]; omega
  have HX := Lib.hid hx; have HB := Lib.hid hb; have HM := Lib.hid hm; have HH := Lib.hid hh
  have hh5 : h ≤ 5 := by omega
  clear hw hx hm hh hb
  cases b with
  | true =>
    go_enter Tryd.func32, Tryd.ntmps32
    go_wp2_with (first
      | (go_at_call 42; refine (sided_any _ s HW.out HB.out).mono ?_; rintro e w1 ⟨rfl, b⟩; have HB1 := Lib.hid b; clear b)
      | (go_at_call 44; refine (number_any _ s HW.out).mono ?_; rintro e w2 ⟨rfl, b⟩; rw [HX.out]; have HB2 := Lib.hid (HB1.out.trans (b.mono HB1.out.size)); clear b)
      | (go_at_call 43; refine (itoa_small h (by omega) _).mono ?_; rintro e w' ⟨rfl, rfl⟩))
    go_ret
    refine ⟨?_, HB2.out⟩
    refine ret_str ?_
    rw [clsN, if_pos HB.out, HM.out, HH.out, str_app]
    rfl
  | false =>
    go_enter Tryd.func32, Tryd.ntmps32
    go_wp2_with (first
      | (go_at_call 42; refine (sided_any _ s HW.out HB.out).mono ?_; rintro e w1 ⟨rfl, b⟩; have HB1 := Lib.hid b; clear b)
      | (go_at_call 44; refine (number_any _ s HW.out).mono ?_; rintro e w2 ⟨rfl, b⟩; rw [HX.out]; have HB2 := Lib.hid (HB1.out.trans (b.mono HB1.out.size)); clear b)
      | (go_at_call 43; refine (itoa_small m (by omega) _).mono ?_; rintro e w' ⟨rfl, rfl⟩))
    go_ret
    refine ⟨?_, HB2.out⟩
    refine ret_str ?_
    rw [clsN, if_neg (by rw [HB.out]; simp), HM.out, str_app]
    rfl

end Go.Proofs.YtjplhnnbmopakaaDoor
