/-
  Normal words: the model's.
-/
import Derived.Test.YtnplklccnaiemaaDoorNrm
namespace Go.Proofs.YtnplklccnaiemaaDoor
open Go.RowKit

/-- What stands there behind i rounds. -/
def rowW (b : Bool) (i : Nat) : List UInt8 := if b then hndW (i / 2) else capsW i
theorem rowW_len (b : Bool) (i : Nat) : (rowW b i).length ≤ 2 * i := by
  unfold rowW
  split
  · rw [hndW_len]; omega
  · rw [capsW_len]; omega
theorem specWordN (w : World) (s : ByteArray) (hs : s.size ≤ 1048576) {r : Bool} (hR : wordB s.data.toList = r) :
    Calls Tryd.prog 15 #[.string s] w fun e w' => e = .returned (.bool r) ∧ Below w.heap.size w w' :=
  (specWord_any s w hs hR).mono fun _ _ ⟨he, k, hw⟩ => ⟨he, hw ▸ below_drewN (Below.refl _ _) k⟩
theorem nrmR_yes {l : List UInt8} (h : wordB l = true) : nrmR l = (true, nrmN l) := by rw [nrmR, h]; rfl
theorem nrmR_no {l : List UInt8} (h : wordB l = false) : nrmR l = (false, []) := by rw [nrmR, h]; rfl
theorem add_any (a b : ByteArray) (ha : a.size ≤ 1000) (hb : b.size ≤ 1000) : ∀ W : World, (Op.stringOp .add a b).run Tryd.prog W = .ok (.string (a ++ b)) W := fun W => run_string_add_sum W _ _ (by omega)

set_option maxRecDepth 100000 in
set_option maxHeartbeats 3200000 in
theorem spec_nrmR (w : World) (s : ByteArray) (hs : s.size ≤ 1048576) {ok : Bool} {r : List UInt8} (hR : nrmR s.data.toList = (ok, r)) :
    Calls Tryd.prog 13 #[.string s] w fun e w' => e = .returned (.tuple #[.string ⟨r.toArray⟩, .bool ok]) ∧ Below w.heap.size w w' := by
  by_cases ha : wordB s.data.toList = true
  · have HA : Hid (wordB s.data.toList = true) := ha
    have hw := wordB_iff.1 ha
    have h := (nrmR_yes ha).symm.trans hR
    simp only [Prod.mk.injEq] at h
    obtain ⟨rfl, e⟩ := h
    have HE := Lib.hid e
    obtain ⟨hlk, hl5⟩ := hw.lackM
    have hnb := hw.numN
    obtain ⟨m, hm⟩ : ∃ m, lackM s.data.toList = m := ⟨_, rfl⟩
    obtain ⟨x, hx⟩ : ∃ x, numN s.data.toList = x := ⟨_, rfl⟩
    obtain ⟨b, hb⟩ : ∃ b, sidedB s.data.toList = b := ⟨_, rfl⟩
    rw [hm] at hlk hl5
    rw [hx] at hlk hnb
    have HX : Hid (numR s.data.toList = x) := (numR_yes ha).trans hx
    have HB : Hid (sidR s.data.toList = b) := hb
    have HM := Lib.hid hm
    have HBB := Lib.hid hb
    by_cases h0 : m = 0
    · subst h0
      clear hw hx hm hb hnb hR ha e
      go_enter Tryd.func13, Tryd.ntmps13
      go_wp2_with fail
      refine (spec_numR _ s hs HX.out).mono ?_
      rintro e w1 ⟨rfl, b1⟩
      have HB1 := Lib.hid b1; clear b1
      go_wp2_with fail
      refine (specWordN _ s hs HA.out).mono ?_
      rintro e w2 ⟨rfl, b1⟩
      have HB2 := Lib.hid (HB1.out.trans (b1.mono HB1.out.size)); clear b1
      go_wp2_with fail
      go_ret2
      obtain rfl : nrmN s.data.toList = r := HE.out
      refine ⟨?_, HB2.out⟩
      rw [nrmN, if_pos HM.out]
      rfl
    have hd0 : ((m : Int) == 0) = false := by simp; omega
    have H0 := Lib.hid h0
    clear hw hx hm hb hnb hR ha e h0
    go_enter Tryd.func13, Tryd.ntmps13
    go_wp2_with fail
    refine (spec_numR _ s hs HX.out).mono ?_
    rintro e w1 ⟨rfl, b1⟩
    have HB1 := Lib.hid b1; clear b1
    go_wp2_with fail
    refine (specWordN _ s hs HA.out).mono ?_
    rintro e w2 ⟨rfl, b1⟩
    have HB2 := Lib.hid (HB1.out.trans (b1.mono HB1.out.size)); clear b1
    go_wp2_with fail
    go_loopw [4, 6] (fun ov iv wr => ∃ (i : Nat) (t : ByteArray), i ≤ m ∧ iv = .int .i64 i ∧ ov = .string t ∧ Hid (t.data.toList = rowW b i) ∧ t.size ≤ 10 ∧ Hid (Below w.heap.size w wr)) (fun _ iv _ => m - (intOf iv).toNat)
    case atStart => exact ⟨0, _, Nat.zero_le _, rfl, rfl, by unfold rowW; cases b <;> rfl, by show 0 ≤ 10; omega, HB2.out⟩
    case round =>
      obtain ⟨i, t, hi, rfl, rfl, ht, hts, hb⟩ := hrel
      by_cases hlt : i < m
      · have hi5 : i < 32 := by omega
        have hT : Hid (∀ t' : ByteArray, t'.data.toList = rowW b (i + 1) → t'.size ≤ 10) := fun t' h => by
          have h1 := congrArg List.length h
          have h2 := rowW_len b (i + 1)
          rw [len_str] at h1
          omega
        cases b with
        | false =>
          have c1 := add_any t ⟨#[nmb i true]⟩ (by omega) (by show 1 ≤ 1000; omega)
          have c2 := add_any (t ++ ⟨#[nmb i true]⟩) ⟨#[nmb i true]⟩ (by rw [ByteArray.size_append]; show t.size + 1 ≤ 1000; omega) (by show 1 ≤ 1000; omega)
          go_wp2_with fail
          refine (spec_sidR _ s hs HB.out).mono ?_
          rintro e w3 ⟨rfl, b1⟩
          have HB3 := Lib.hid (hb.out.trans (b1.mono hb.out.size)); clear b1
          go_wp2_with fail
          refine (l8Name_any i true _ hi5).mono ?_
          rintro e w4 ⟨rfl, b1⟩
          have HB4 := Lib.hid (HB3.out.trans (b1.mono HB3.out.size)); clear b1
          go_wp2_with fail
          refine (l8Name_any i true _ hi5).mono ?_
          rintro e w5 ⟨rfl, b1⟩
          have HB5 := Lib.hid (HB4.out.trans (b1.mono HB4.out.size)); clear b1
          go_wp2_with fail
          go_roundw
          case rel =>
            have e : (t ++ ⟨#[nmb i true]⟩ ++ ⟨#[nmb i true]⟩ : ByteArray).data.toList = rowW false (i + 1) := by
              rw [str_app, str_app, ht.out]
              show capsW i ++ [nmb i true] ++ [nmb i true] = capsW i ++ [nmb i true, nmb i true]
              simp
            exact ⟨i + 1, _, by omega, by go_num, rfl, e, hT.out _ e, HB5.out⟩
          case measure => simp [intOf]; omega
        | true =>
          obtain ⟨j, hj | hj⟩ : ∃ j, i = 2 * j ∨ i = 2 * j + 1 := ⟨i / 2, by omega⟩
          · have hr1 : (i : Int).tmod 2 = 0 := by rw [Int.tmod_eq_emod_of_nonneg (by omega)]; omega
            have hr2 : (i : Int) % 2 = 0 := by omega
            have HJ := Lib.hid hj
            have e : Hid (rowW true (i + 1) = rowW true i) := by
              rw [Hid]
              show hndW ((i + 1) / 2) = hndW (i / 2)
              rw [show (i + 1) / 2 = i / 2 by omega]
            clear hj
            go_wp2_with fail
            refine (spec_sidR _ s hs HB.out).mono ?_
            rintro e w3 ⟨rfl, b1⟩
            have HB3 := Lib.hid (hb.out.trans (b1.mono hb.out.size)); clear b1
            go_wp2_with fail
            go_roundw
            case rel => exact ⟨i + 1, _, by omega, by go_num, rfl, by rw [Hid, e.out]; exact ht.out, hts, HB3.out⟩
            case measure => simp [intOf]; omega
          · have hr1 : (i : Int).tmod 2 = 1 := by rw [Int.tmod_eq_emod_of_nonneg (by omega)]; omega
            have hr2 : (i : Int) % 2 = 1 := by omega
            obtain ⟨a, hia⟩ : ∃ a, a = 2 * j := ⟨_, rfl⟩
            have hia2 : (i : Int) - 1 = (a : Int) := by omega
            have ha5 : a < 32 := by omega
            have e : Hid (rowW true (i + 1) = rowW true i ++ [nmb a true, nmb i true, nmb a false, nmb i false]) := by
              rw [Hid]
              show hndW ((i + 1) / 2) = hndW (i / 2) ++ _
              rw [show (i + 1) / 2 = j + 1 by omega, show i / 2 = j by omega, hndW, hia, hj]
            have c1 := add_any t ⟨#[nmb a true]⟩ (by omega) (by show 1 ≤ 1000; omega)
            have c2 := add_any (t ++ ⟨#[nmb a true]⟩) ⟨#[nmb i true]⟩ (by rw [ByteArray.size_append]; show t.size + 1 ≤ 1000; omega) (by show 1 ≤ 1000; omega)
            have c3 := add_any (t ++ ⟨#[nmb a true]⟩ ++ ⟨#[nmb i true]⟩) ⟨#[nmb a false]⟩ (by rw [ByteArray.size_append, ByteArray.size_append]; show t.size + 1 + 1 ≤ 1000; omega) (by show 1 ≤ 1000; omega)
            have c4 := add_any (t ++ ⟨#[nmb a true]⟩ ++ ⟨#[nmb i true]⟩ ++ ⟨#[nmb a false]⟩) ⟨#[nmb i false]⟩ (by rw [ByteArray.size_append, ByteArray.size_append, ByteArray.size_append]; show t.size + 1 + 1 + 1 ≤ 1000; omega) (by show 1 ≤ 1000; omega)
            clear hj hia
            go_wp2_with fail
            refine (spec_sidR _ s hs HB.out).mono ?_
            rintro e w3 ⟨rfl, b1⟩
            have HB3 := Lib.hid (hb.out.trans (b1.mono hb.out.size)); clear b1
            go_wp2_with fail
            refine (l8Name_any a true _ ha5).mono ?_
            rintro e w4 ⟨rfl, b1⟩
            have HB4 := Lib.hid (HB3.out.trans (b1.mono HB3.out.size)); clear b1
            go_wp2_with fail
            refine (l8Name_any i true _ hi5).mono ?_
            rintro e w5 ⟨rfl, b1⟩
            have HB5 := Lib.hid (HB4.out.trans (b1.mono HB4.out.size)); clear b1
            go_wp2_with fail
            refine (l8Name_any a false _ ha5).mono ?_
            rintro e w6 ⟨rfl, b1⟩
            have HB6 := Lib.hid (HB5.out.trans (b1.mono HB5.out.size)); clear b1
            go_wp2_with fail
            refine (l8Name_any i false _ hi5).mono ?_
            rintro e w7 ⟨rfl, b1⟩
            have HB7 := Lib.hid (HB6.out.trans (b1.mono HB6.out.size)); clear b1
            go_wp2_with fail
            go_roundw
            case rel =>
              have e2 : (t ++ ⟨#[nmb a true]⟩ ++ ⟨#[nmb i true]⟩ ++ ⟨#[nmb a false]⟩ ++ ⟨#[nmb i false]⟩ : ByteArray).data.toList = rowW true (i + 1) := by
                rw [str_app, str_app, str_app, str_app, ht.out, e.out]
                simp
              exact ⟨i + 1, _, by omega, by go_num, rfl, e2, hT.out _ e2, HB7.out⟩
            case measure => simp [intOf]; omega
      · have him : i = m := by omega
        have HIM := Lib.hid him; clear him
        go_wp2_with fail
        go_ret2
        refine ⟨?_, hb.out⟩
        have e1 : t = ⟨r.toArray⟩ := str_mk (by
          rw [ht.out, ← HE.out, nrmN, if_neg (by rw [HM.out]; exact H0.out), HBB.out, HIM.out, HM.out]
          rfl)
        rw [← e1]
        rfl
  · have ha' : wordB s.data.toList = false := by simpa using ha
    have HA : Hid (wordB s.data.toList = false) := ha'
    have HX : Hid (numR s.data.toList = -100) := numR_no ha'
    have h := (nrmR_no ha').symm.trans hR
    simp only [Prod.mk.injEq] at h
    obtain ⟨rfl, rfl⟩ := h
    clear hR ha ha'
    go_enter Tryd.func13, Tryd.ntmps13
    go_wp2_with fail
    refine (spec_numR _ s hs HX.out).mono ?_
    rintro e w1 ⟨rfl, b1⟩
    have HB1 := Lib.hid b1; clear b1
    go_wp2_with fail
    refine (specWordN _ s hs HA.out).mono ?_
    rintro e w2 ⟨rfl, b1⟩
    have HB2 := Lib.hid (HB1.out.trans (b1.mono HB1.out.size)); clear b1
    go_wp2_with fail
    go_ret2
    exact ⟨rfl, HB2.out⟩

end Go.Proofs.YtnplklccnaiemaaDoor
