/-
  Words with two sides, and their gluings: the model's and the program's.
-/
import Derived.Test.YtfdliekhlcbkcaaDoorWrdX
namespace Go.Proofs.YtfdliekhlcbkcaaDoor
open Go.RowKit

theorem byte_eq {l : List UInt8} (h : Word l) {i : Nat} (hi : i < l.length) : (((gb l i).toNat : Int) == ((gb l (par l i)).toNat : Int)) = !twoAt l i := by
  have hle := (h.isPar hi).eq
  have h0 := (h.ok i hi).1
  unfold twoAt
  by_cases es : sml (gb l i) = sml (gb l (par l i))
  · rw [ltr_eq hle.symm es h0]; simp
  · have e1 : (sml (gb l i) != sml (gb l (par l i))) = true := by simpa using es
    rw [e1]
    rw [Bool.not_true, beq_eq_false_iff_ne]
    intro e
    exact es (by rw [UInt8.toNat_inj.1 (show (gb l i).toNat = (gb l (par l i)).toNat by omega)])
theorem sidedB_all {l : List UInt8} (h : sidedB l = true) : wordB l = true ∧ ∀ i, i < l.length → twoAt l i = true := by
  rw [sidedB, Bool.and_eq_true, List.all_eq_true] at h
  exact ⟨h.1, fun i hi => h.2 i (by simpa using hi)⟩
theorem sidedB_word {l : List UInt8} (h : wordB l = false) : sidedB l = false := by rw [sidedB, h, Bool.false_and]

set_option maxHeartbeats 800000 in
theorem sided_any (w : World) (s : ByteArray) (hw : Word s.data.toList) {r : Bool} (hr : sidedB s.data.toList = r) :
    Calls Tryd.prog 59 #[.string s] w fun e w' => e = .returned (.bool r) ∧ Below w.heap.size w w' := by
  have hlen := hw.len
  rw [len_str] at hlen
  have HW := Lib.hid hw; have HR := Lib.hid hr; clear hw hr
  go_enter Tryd.func59, Tryd.ntmps59
  go_wp2_with fail
  refine (partners_any s w HW.out).mono ?_
  rintro e w1 ⟨v, rfl, o, b⟩
  have hpl : (parL s.data.toList).length = s.size := (parL_len _).trans (len_str s)
  obtain ⟨Ap, cp, rfl, hrd, -⟩ := o.form' hpl
  have HRD := Lib.hid hrd; have HB := Lib.hid b
  clear o b hpl hrd
  go_wp2_with fail
  go_loopw [8] (fun kv wr => ∃ k q : Nat, k ≤ s.size ∧ kv = .int .i64 k ∧ wr = w1.drewN q ∧ Hid (∀ j, j < k → twoAt s.data.toList j = true)) (fun kv _ => s.size - (intOf kv).toNat)
  case atStart => exact ⟨0, 0, Nat.zero_le _, rfl, rfl, fun j hj => absurd hj (by omega)⟩
  case round =>
    obtain ⟨k, q, hk, rfl, rfl, hall⟩ := hrel
    by_cases hlt : k < s.size
    · have hkl : k < s.data.toList.length := by rw [len_str]; exact hlt
      obtain ⟨p, hpp⟩ : ∃ p, par s.data.toList k = p := ⟨_, rfl⟩
      have hps : p < s.size := by have := (HW.out.isPar hkl).lt; rw [len_str, hpp] at this; exact this
      obtain ⟨ad, rfl, hc⟩ := HRD.out.at_ hlt
      rw [parL, gi_tab hkl, hpp] at hc
      have hbb := byte_eq HW.out hkl
      rw [hpp, gb_at s hlt, gb_at s hps] at hbb
      obtain ⟨b, hb⟩ : ∃ b, twoAt s.data.toList k = b := ⟨_, rfl⟩
      rw [hb] at hbb
      have HT := Lib.hid hb; clear hpp hb
      cases b with
      | true =>
        have hb2 : ((s[k].toNat : Int) == (s[p].toNat : Int)) = false := hbb
        clear hbb
        go_wp2_with fail
        go_quiet (fail)
        go_wp2_with fail
        go_roundw
        case rel => exact ⟨k + 1, q + _, by omega, by go_num, rfl, fun j hj => by
          by_cases e : j = k
          · subst e; exact HT.out
          · exact hall.out j (by omega)⟩
        case measure => simp [intOf]; omega
      | false =>
        have hb2 : ((s[k].toNat : Int) == (s[p].toNat : Int)) = true := hbb
        have HN : Hid (r = false) := by rw [Hid, ← HR.out]; exact sidedB_no hkl HT.out
        clear hbb
        go_wp2_with fail
        go_quiet (fail)
        go_wp2_with fail
        go_ret
        exact ⟨ret_boolE HN.out.symm, below_drewN (below_drewN HB.out _) _⟩
    · have hks : k = s.size := by omega
      have HN : Hid (r = true) := by rw [Hid, ← HR.out]; exact sidedB_yes (wordB_iff.2 HW.out) fun i hi => hall.out i (by rw [hks]; rwa [len_str] at hi)
      clear hks
      go_wp2_with fail
      go_ret
      exact ⟨ret_boolE HN.out.symm, below_drewN HB.out _⟩

noncomputable def sidR (l : List UInt8) : Bool := sidedB l
set_option maxHeartbeats 800000 in
theorem impl_sidR (w : World) (s : ByteArray) (hs : s.size ≤ 1048576) {r : Bool} (hR : sidR s.data.toList = r) :
    Calls Tryd.prog 19 #[.string s] w fun e w' => e = .returned (.bool r) ∧ Below w.heap.size w w' := by
  have HR : Hid (sidedB s.data.toList = r) := hR
  obtain ⟨b, hb⟩ : ∃ b, wordB s.data.toList = b := ⟨_, rfl⟩
  have HBB := Lib.hid hb; clear hR
  cases b with
  | false =>
    have HN := Lib.hid ((sidedB_word hb).symm.trans HR.out); clear hb
    go_enter Tryd.func19, Tryd.ntmps19
    go_wp2_with (go_at_call 39; refine (implWord_any s _ hs HBB.out).mono ?_; rintro e w1 ⟨rfl, b⟩; have HB1 := Lib.hid b; clear b)
    go_ret
    exact ⟨ret_boolE HN.out, HB1.out⟩
  | true =>
    have HW := Lib.hid (wordB_iff.1 hb); clear hb
    go_enter Tryd.func19, Tryd.ntmps19
    go_wp2_with (first
      | (go_at_call 39; refine (implWord_any s _ hs HBB.out).mono ?_; rintro e w1 ⟨rfl, b⟩; have HB1 := Lib.hid b; clear b)
      | (go_at_call 59; refine (sided_any _ s HW.out HR.out).mono ?_; rintro e w2 ⟨rfl, b⟩; have HB2 := Lib.hid (HB1.out.trans (b.mono HB1.out.size)); clear b))
    go_ret
    exact ⟨rfl, HB2.out⟩

set_option maxHeartbeats 1600000 in
theorem specSided_any (w : World) (s : ByteArray) (hs : s.size ≤ 1048576) {r : Bool} (hR : sidR s.data.toList = r) :
    Calls Tryd.prog 67 #[.string s] w fun e w' => e = .returned (.bool r) ∧ ∃ q, w' = w.drewN q := by
  have HR : Hid (sidedB s.data.toList = r) := hR
  obtain ⟨b, hb⟩ : ∃ b, wordB s.data.toList = b := ⟨_, rfl⟩
  have HBB := Lib.hid hb; clear hR
  cases b with
  | false =>
    have HN := Lib.hid ((sidedB_word hb).symm.trans HR.out); clear hb
    go_enter Tryd.func67, Tryd.ntmps67
    go_wp2_with fail
    go_loopw [3] (fun kv wr => ∃ q : Nat, kv = .int .i64 0 ∧ wr = w.drewN q) (fun _ _ => 0)
    case atStart => exact ⟨0, rfl, rfl⟩
    case round =>
      obtain ⟨q, rfl, rfl⟩ := hrel
      by_cases h0 : 0 < s.size
      · go_wp2_with (go_at_call 50; refine (specWord_any s _ hs HBB.out).mono ?_; rintro e w' ⟨rfl, q1, rfl⟩)
        go_ret
        exact ⟨ret_boolE HN.out, _, by first | rfl | exact World.drewN_drewN _ _ _⟩
      · go_wp2_with (go_at_call 50; refine (specWord_any s _ hs HBB.out).mono ?_; rintro e w' ⟨rfl, q1, rfl⟩)
        go_ret
        exact ⟨ret_boolE HN.out, _, by first | rfl | exact World.drewN_drewN _ _ _⟩
  | true =>
    have HW := Lib.hid (wordB_iff.1 hb); clear hb
    go_enter Tryd.func67, Tryd.ntmps67
    go_wp2_with fail
    go_loopw [3] (fun kv wr => ∃ k q : Nat, k ≤ s.size ∧ kv = .int .i64 k ∧ wr = w.drewN q ∧ Hid (∀ j, j < k → twoAt s.data.toList j = true)) (fun kv _ => s.size - (intOf kv).toNat)
    case atStart => exact ⟨0, 0, Nat.zero_le _, rfl, rfl, fun j hj => absurd hj (by omega)⟩
    case round =>
      obtain ⟨k, q, hk, rfl, rfl, hall⟩ := hrel
      by_cases hlt : k < s.size
      · have hkl : k < s.data.toList.length := by rw [len_str]; exact hlt
        obtain ⟨p, hpp⟩ : ∃ p, par s.data.toList k = p := ⟨_, rfl⟩
        have hps : p < s.size := by have := (HW.out.isPar hkl).lt; rw [len_str, hpp] at this; exact this
        have HPP := Lib.hid hpp
        obtain ⟨b, hb⟩ : ∃ b, twoAt s.data.toList k = b := ⟨_, rfl⟩
        have hbb : (sml s[k] == sml s[p]) = !b := by rw [← hb, twoAt, hpp, gb_at s hlt, gb_at s hps, bne, Bool.not_not]
        have HT := Lib.hid hb; clear hpp hb
        cases b with
        | true =>
          have hb2 : (sml s[k] == sml s[p]) = false := hbb
          clear hbb
          go_wp2_with (first
            | (go_at_call 50; refine (specWord_any s _ hs HBB.out).mono ?_; rintro e w' ⟨rfl, q1, rfl⟩)
            | (go_at_call 78; refine (l8Small_any _ _).mono ?_; rintro e w' ⟨rfl, rfl⟩)
            | (go_at_call 76; refine (l8Partner_any s k _ hs hlt).mono ?_; rintro e w' ⟨rfl, q2, rfl⟩; rw [HPP.out]))
          go_roundw
          case rel => exact ⟨k + 1, _, by omega, by go_num, by first | rfl | exact World.drewN_drewN _ _ _, fun j hj => by
            by_cases e : j = k
            · subst e; exact HT.out
            · exact hall.out j (by omega)⟩
          case measure => simp [intOf]; omega
        | false =>
          have hb2 : (sml s[k] == sml s[p]) = true := hbb
          have HN : Hid (r = false) := by rw [Hid, ← HR.out]; exact sidedB_no hkl HT.out
          clear hbb
          go_wp2_with (first
            | (go_at_call 50; refine (specWord_any s _ hs HBB.out).mono ?_; rintro e w' ⟨rfl, q1, rfl⟩)
            | (go_at_call 78; refine (l8Small_any _ _).mono ?_; rintro e w' ⟨rfl, rfl⟩)
            | (go_at_call 76; refine (l8Partner_any s k _ hs hlt).mono ?_; rintro e w' ⟨rfl, q2, rfl⟩; rw [HPP.out]))
          go_ret
          exact ⟨ret_boolE HN.out.symm, _, by first | rfl | exact World.drewN_drewN _ _ _⟩
      · have hks : k = s.size := by omega
        have HN : Hid (r = true) := by rw [Hid, ← HR.out]; exact sidedB_yes HBB.out fun i hi => hall.out i (by rw [hks]; rwa [len_str] at hi)
        clear hks
        go_wp2_with (go_at_call 50; refine (specWord_any s _ hs HBB.out).mono ?_; rintro e w' ⟨rfl, q1, rfl⟩)
        go_ret
        exact ⟨ret_boolE HN.out.symm, _, by first | rfl | exact World.drewN_drewN _ _ _⟩
theorem spec_sidR (w : World) (s : ByteArray) (hs : s.size ≤ 1048576) {r : Bool} (hR : sidR s.data.toList = r) :
    Calls Tryd.prog 67 #[.string s] w fun e w' => e = .returned (.bool r) ∧ Below w.heap.size w w' :=
  (specSided_any w s hs hR).mono fun _ _ ⟨he, k, hw⟩ => ⟨he, hw ▸ below_drewN (Below.refl _ _) k⟩

end Go.Proofs.YtfdliekhlcbkcaaDoor
