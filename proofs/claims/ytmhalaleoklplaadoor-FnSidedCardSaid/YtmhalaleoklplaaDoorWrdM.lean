/-
  The model's letters, partners and words.
-/
import Derived.Test.YtmhalaleoklplaaDoorBase
import Derived.Test.YtmhalaleoklplaaDoorWop
import Derived.IntWalk
import Derived.Laws.IdiomStrings
namespace Go.Proofs.YtmhalaleoklplaaDoor
open Go.RowKit

theorem ret_intE {k : IntKind} {a b : Int} (h : a = b) : Ending.returned (.int k a) = .returned (.int k b) := by rw [h]
theorem ret_boolE {a b : Bool} (h : a = b) : Ending.returned (.bool a) = .returned (.bool b) := by rw [h]
theorem gb_at (s : ByteArray) {k : Nat} (h : k < s.size) : gb s.data.toList k = s[k] := by rw [gb_eq (by simpa using h)]; rfl
theorem len_str (s : ByteArray) : s.data.toList.length = s.size := by simp

theorem l8Letter_any (c : UInt8) (w : World) :
    Calls Tryd.prog 31 #[.int .u8 (c.toNat : Int)] w fun e w' => e = .returned (.int .i64 (ltr c)) ∧ w = w' := by
  have hc := c.toNat_lt
  have E : Hid (ltr c = if 97 ≤ c.toNat ∧ c.toNat < 102 then (c.toNat : Int) - 97 else if 65 ≤ c.toNat ∧ c.toNat < 70 then (c.toNat : Int) - 65 else -1) := rfl
  generalize ltr c = r at *
  generalize c.toNat = n at *
  by_cases h1 : 97 ≤ n ∧ n < 102
  · obtain ⟨h1, h2⟩ := h1
    go_enter Tryd.func31, Tryd.ntmps31
    go_wp2
    go_ret
    exact ⟨ret_intE (by rw [E.out, if_pos ⟨h1, h2⟩]), rfl⟩
  · by_cases h3 : 65 ≤ n ∧ n < 70
    · have HN := Lib.hid h1
      have h5 : n < 97 := by omega
      obtain ⟨h3, h4⟩ := h3
      clear h1
      go_enter Tryd.func31, Tryd.ntmps31
      go_wp2
      go_ret
      exact ⟨ret_intE (by rw [E.out, if_neg HN.out, if_pos ⟨h3, h4⟩]), rfl⟩
    · have HN := Lib.hid h1; have HM := Lib.hid h3
      by_cases h6 : 97 ≤ n
      · have h7 : 102 ≤ n := by omega
        have h8 : 65 ≤ n := by omega
        have h9 : 70 ≤ n := by omega
        clear h1 h3
        go_enter Tryd.func31, Tryd.ntmps31
        go_wp2
        go_ret
        exact ⟨ret_intE (by rw [E.out, if_neg HN.out, if_neg HM.out]), rfl⟩
      · have h7 : n < 97 := by omega
        by_cases h8 : 65 ≤ n
        · have h9 : 70 ≤ n := by omega
          clear h1 h3
          go_enter Tryd.func31, Tryd.ntmps31
          go_wp2
          go_ret
          exact ⟨ret_intE (by rw [E.out, if_neg HN.out, if_neg HM.out]), rfl⟩
        · have h9 : n < 65 := by omega
          clear h1 h3
          go_enter Tryd.func31, Tryd.ntmps31
          go_wp2
          go_ret
          exact ⟨ret_intE (by rw [E.out, if_neg HN.out, if_neg HM.out]), rfl⟩

theorem l8Small_any (c : UInt8) (w : World) :
    Calls Tryd.prog 16 #[.int .u8 (c.toNat : Int)] w fun e w' => e = .returned (.bool (sml c)) ∧ w = w' := by
  have E : Hid (sml c = decide (97 ≤ c.toNat)) := rfl
  generalize sml c = r at *
  generalize c.toNat = n at *
  go_enter Tryd.func16, Tryd.ntmps16
  go_wp2
  go_ret
  exact ⟨ret_boolE (by rw [E.out, decide_eq_decide]; omega), rfl⟩

/-- Side k bears the letter of side i and is another one. -/
def isOther (l : List UInt8) (i k : Nat) : Bool := decide (k ≠ i) && (ltr (gb l k) == ltr (gb l i))
theorem par_at {l : List UInt8} {i k : Nat} (hk : k < l.length) (h : isOther l i k = true) (hn : ∀ j, j < k → isOther l i j = false) : par l i = k := by
  unfold par
  rw [show ((List.range l.length).find? fun j => decide (j ≠ i) && (ltr (gb l j) == ltr (gb l i))) = some k from ?_]
  · rfl
  · rw [List.find?_range_eq_some]
    exact ⟨h, by simpa using hk, fun j hj => by have := hn j hj; unfold isOther at this; rw [this]; rfl⟩
theorem par_none {l : List UInt8} {i : Nat} (hn : ∀ j, j < l.length → isOther l i j = false) : par l i = i := by
  unfold par
  rw [show ((List.range l.length).find? fun j => decide (j ≠ i) && (ltr (gb l j) == ltr (gb l i))) = none from ?_]
  · rfl
  · rw [List.find?_eq_none]
    intro j hj
    have := hn j (by simpa using hj)
    unfold isOther at this
    simp only [this, Bool.false_eq_true, not_false_eq_true]

set_option maxHeartbeats 800000 in
theorem l8Partner_any (s : ByteArray) (i : Nat) (w : World) (hs : s.size ≤ 1048576) (hi : i < s.size) :
    Calls Tryd.prog 17 #[.string s, .int .i64 (i : Int)] w fun e w' => e = .returned (.int .i64 (par s.data.toList i : Int)) ∧ ∃ q, w' = w.drewN q := by
  have HG := Lib.hid (gb_at s hi)
  go_enter Tryd.func17, Tryd.ntmps17
  go_wp2_with fail
  go_loopw [5] (fun kv wr => ∃ k q : Nat, k ≤ s.size ∧ kv = .int .i64 k ∧ wr = w.drewN q ∧ Hid (∀ j, j < k → isOther s.data.toList i j = false)) (fun kv _ => s.size - (intOf kv).toNat)
  case atStart => exact ⟨0, 0, Nat.zero_le _, rfl, rfl, fun j hj => absurd hj (by omega)⟩
  case round =>
    obtain ⟨k, q, hk, rfl, rfl, hno⟩ := hrel
    by_cases hlt : k < s.size
    · have HK := Lib.hid (gb_at s hlt)
      by_cases hki : k = i
      · have d1 : ((k : Int) != (i : Int)) = false := by simp; omega
        have HI := Lib.hid hki; clear hki
        go_wp2_with fail
        go_quiet (fail)
        go_wp2_with fail
        go_roundw
        case rel => exact ⟨k + 1, q + _, by omega, by go_num, rfl, fun j hj => by
          by_cases e : j = k
          · subst e; simp [isOther, HI.out]
          · exact hno.out j (by omega)⟩
        case measure => simp [intOf]; omega
      · have d1 : ((k : Int) != (i : Int)) = true := by simp; omega
        have HI := Lib.hid hki; clear hki
        obtain ⟨b, hb⟩ : ∃ b, (ltr s[k] == ltr s[i]) = b := ⟨_, rfl⟩
        have HO : Hid (isOther s.data.toList i k = b) := by rw [Hid, isOther, HK.out, HG.out, hb, decide_eq_true HI.out, Bool.true_and]
        cases b with
        | true =>
          go_wp2_with fail
          go_quiet ((go_at_call 31; exact (l8Letter_any _ _).mono fun e w' h => ⟨h.1, _, h.2.symm⟩))
          go_wp2_with fail
          go_ret
          exact ⟨ret_intE (by rw [par_at (by rw [len_str]; exact hlt) HO.out hno.out]), _, World.drewN_drewN _ _ _⟩
        | false =>
          go_wp2_with fail
          go_quiet ((go_at_call 31; exact (l8Letter_any _ _).mono fun e w' h => ⟨h.1, _, h.2.symm⟩))
          go_wp2_with fail
          go_roundw
          case rel => exact ⟨k + 1, q + _, by omega, by go_num, rfl, fun j hj => by
            by_cases e : j = k
            · subst e; exact HO.out
            · exact hno.out j (by omega)⟩
          case measure => simp [intOf]; omega
    · have hks : k = s.size := by omega
      have HS := Lib.hid hks; clear hks
      go_wp2_with fail
      go_ret
      exact ⟨ret_intE (by rw [par_none (fun j hj => hno.out j (by rw [HS.out]; rwa [len_str] at hj))]), _, rfl⟩

theorem goodAt_eq (l : List UInt8) (i : Nat) {x : Int} {n : Nat} (hx : ltr (gb l i) = x) (hn : ltc l x = n) : goodAt l i = (!(decide (x < 0) || ((n : Int) != 2))) := by
  unfold goodAt
  rw [hx, hn, Bool.eq_iff_iff]
  simp
  omega

set_option maxHeartbeats 1600000 in
theorem specWord_any (s : ByteArray) (w : World) (hs : s.size ≤ 1048576) {r : Bool} (hR : wordB s.data.toList = r) :
    Calls Tryd.prog 15 #[.string s] w fun e w' => e = .returned (.bool r) ∧ ∃ q, w' = w.drewN q := by
  have HR := Lib.hid hR; clear hR
  go_enter Tryd.func15, Tryd.ntmps15
  go_wp2_with fail
  go_loopw [3, 4, 5] (fun iv _ _ wr => ∃ i q : Nat, i ≤ s.size ∧ iv = .int .i64 i ∧ wr = w.drewN q ∧ Hid (∀ j, j < i → goodAt s.data.toList j = true)) (fun iv _ _ _ => s.size - (intOf iv).toNat)
  case atStart => exact ⟨0, 0, Nat.zero_le _, rfl, rfl, fun j hj => absurd hj (by omega)⟩
  case round =>
    obtain ⟨i, q, hi, rfl, rfl, hall⟩ := hrel
    by_cases hlt : i < s.size
    · have HG := Lib.hid (gb_at s hlt)
      obtain ⟨x, hx⟩ : ∃ x, ltr s[i] = x := ⟨_, rfl⟩
      have HX := Lib.hid hx; clear hx
      go_wp2_with fail
      go_loopw [4, 5] (fun nv kv wr => ∃ n k q : Nat, k ≤ s.size ∧ n ≤ k ∧ nv = .int .i64 n ∧ kv = .int .i64 k ∧ wr = w.drewN q ∧ Hid (ltc (s.data.toList.take k) x = n)) (fun _ kv _ => s.size - (intOf kv).toNat)
      case atStart => exact ⟨0, 0, q, Nat.zero_le _, Nat.le_refl _, rfl, rfl, rfl, rfl⟩
      case round =>
        obtain ⟨n, k, q, hk, hnk, rfl, rfl, rfl, hn⟩ := hrel
        by_cases hlt2 : k < s.size
        · have hts : s.data.toList.take (k + 1) = s.data.toList.take k ++ [s[k]] := by
            rw [List.take_succ_eq_append_getElem (by simpa using hlt2)]; rfl
          have hc := ltc_snoc (s.data.toList.take k) s[k] x
          rw [← hts, hn.out] at hc
          have HC := Lib.hid hc; clear hc hts
          by_cases e : ltr s[k] = x
          · have d1 : (ltr s[k] == ltr s[i]) = true := by rw [HX.out]; simp [e]
            have HE := Lib.hid e; clear e
            go_wp2_with fail
            go_quiet ((go_at_call 31; exact (l8Letter_any _ _).mono fun e w' h => ⟨h.1, _, h.2.symm⟩))
            go_wp2_with fail
            go_roundw
            case rel => exact ⟨n + 1, k + 1, q + _, by omega, by omega, by go_num, by go_num, rfl, by rw [Hid, HC.out, if_pos HE.out]⟩
            case measure => simp [intOf]; omega
          · have d1 : (ltr s[k] == ltr s[i]) = false := by rw [HX.out]; simp [e]
            have HE := Lib.hid e; clear e
            go_wp2_with fail
            go_quiet ((go_at_call 31; exact (l8Letter_any _ _).mono fun e w' h => ⟨h.1, _, h.2.symm⟩))
            go_wp2_with fail
            go_roundw
            case rel => exact ⟨n, k + 1, q + _, by omega, by omega, rfl, by go_num, rfl, by rw [Hid, HC.out, if_neg HE.out]; rfl⟩
            case measure => simp [intOf]; omega
        · have hks : k = s.size := by omega
          have hn2 : ltc s.data.toList x = n := by
            have := hn.out
            rwa [hks, List.take_of_length_le (by simp)] at this
          have hg := goodAt_eq s.data.toList i (x := x) (n := n) (by rw [HG.out, HX.out]) hn2
          have HGO := Lib.hid hg; clear hg hn2 hks
          by_cases h0 : x < 0
          · have d1 : decide (ltr s[i] < 0) = true := by rw [HX.out]; simp [h0]
            have HN : Hid (r = false) := by
              rw [Hid, ← HR.out]
              refine wordB_no (i := i) (by rw [len_str]; exact hlt) ?_
              rw [HGO.out, decide_eq_true h0]; rfl
            clear h0
            go_wp2_with (go_at_call 31; refine (l8Letter_any _ _).mono ?_; rintro e w' ⟨rfl, rfl⟩)
            go_ret
            exact ⟨ret_boolE HN.out.symm, _, rfl⟩
          · have d1 : decide (ltr s[i] < 0) = false := by rw [HX.out]; simp; omega
            by_cases h2 : n = 2
            · have d2 : ((n : Int) != 2) = false := by rw [h2]; rfl
              have HN : Hid (goodAt s.data.toList i = true) := by rw [Hid, HGO.out, d2, decide_eq_false h0]; rfl
              clear h0 h2
              go_wp2_with (go_at_call 31; refine (l8Letter_any _ _).mono ?_; rintro e w' ⟨rfl, rfl⟩)
              go_roundw
              case rel => exact ⟨i + 1, q, by omega, by go_num, rfl, fun j hj => by
                by_cases e : j = i
                · subst e; exact HN.out
                · exact hall.out j (by omega)⟩
              case measure => simp [intOf]; omega
            · have d2 : ((n : Int) != 2) = true := by simp; omega
              have HN : Hid (r = false) := by
                rw [Hid, ← HR.out]
                refine wordB_no (i := i) (by rw [len_str]; exact hlt) ?_
                rw [HGO.out, d2, Bool.or_true]; rfl
              clear h0 h2
              go_wp2_with (go_at_call 31; refine (l8Letter_any _ _).mono ?_; rintro e w' ⟨rfl, rfl⟩)
              go_ret
              exact ⟨ret_boolE HN.out.symm, _, rfl⟩
    · have hks : i = s.size := by omega
      have HN : Hid (r = decide (0 < s.size)) := by
        rw [Hid, ← HR.out, wordB, len_str, show (List.range s.size).all (goodAt s.data.toList) = true from List.all_eq_true.2 fun j hj => hall.out j (by rw [hks]; simpa using hj), Bool.and_true]
      clear hks
      go_wp2_with fail
      go_ret
      exact ⟨ret_boolE (by rw [HN.out]), _, rfl⟩

end Go.Proofs.YtmhalaleoklplaaDoor
