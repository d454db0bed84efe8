/-
  The model's letters, partners and words.
  The program's letters and words.
-/
import Derived.Test.YtfdliekhlcbkcaaDoorBase
import Derived.Test.YtfdliekhlcbkcaaDoorWrd
import Derived.IntWalk
import Derived.Laws.IdiomStrings
import Derived.Laws.Rows
namespace Go.Proofs.YtfdliekhlcbkcaaDoor
open Go.RowKit

theorem ret_intE {k : IntKind} {a b : Int} (h : a = b) : Ending.returned (.int k a) = .returned (.int k b) := by rw [h]
theorem ret_boolE {a b : Bool} (h : a = b) : Ending.returned (.bool a) = .returned (.bool b) := by rw [h]
theorem gb_at (s : ByteArray) {k : Nat} (h : k < s.size) : gb s.data.toList k = s[k] := by rw [gb_eq (by simpa using h)]; rfl
theorem len_str (s : ByteArray) : s.data.toList.length = s.size := by simp

theorem l8Letter_any (c : UInt8) (w : World) :
    Calls Tryd.prog 77 #[.int .u8 (c.toNat : Int)] w fun e w' => e = .returned (.int .i64 (ltr c)) ∧ w = w' := by
  have hc := c.toNat_lt
  have E : Hid (ltr c = if 97 ≤ c.toNat ∧ c.toNat < 102 then (c.toNat : Int) - 97 else if 65 ≤ c.toNat ∧ c.toNat < 70 then (c.toNat : Int) - 65 else -1) := rfl
  generalize ltr c = r at *
  generalize c.toNat = n at *
  by_cases h1 : 97 ≤ n ∧ n < 102
  · obtain ⟨h1, h2⟩ := h1
    go_enter Tryd.func77, Tryd.ntmps77
    go_wp2
    go_ret
    exact ⟨ret_intE (by rw [E.out, if_pos ⟨h1, h2⟩]), rfl⟩
  · by_cases h3 : 65 ≤ n ∧ n < 70
    · have HN := Lib.hid h1
      have h5 : n < 97 := by omega
      obtain ⟨h3, h4⟩ := h3
      clear h1
      go_enter Tryd.func77, Tryd.ntmps77
      go_wp2
      go_ret
      exact ⟨ret_intE (by rw [E.out, if_neg HN.out, if_pos ⟨h3, h4⟩]), rfl⟩
    · have HN := Lib.hid h1; have HM := Lib.hid h3
      by_cases h6 : 97 ≤ n
      · have h7 : 102 ≤ n := by omega
        have h8 : 65 ≤ n := by omega
        have h9 : 70 ≤ n := by omega
        clear h1 h3
        go_enter Tryd.func77, Tryd.ntmps77
        go_wp2
        go_ret
        exact ⟨ret_intE (by rw [E.out, if_neg HN.out, if_neg HM.out]), rfl⟩
      · have h7 : n < 97 := by omega
        by_cases h8 : 65 ≤ n
        · have h9 : 70 ≤ n := by omega
          clear h1 h3
          go_enter Tryd.func77, Tryd.ntmps77
          go_wp2
          go_ret
          exact ⟨ret_intE (by rw [E.out, if_neg HN.out, if_neg HM.out]), rfl⟩
        · have h9 : n < 65 := by omega
          clear h1 h3
          go_enter Tryd.func77, Tryd.ntmps77
          go_wp2
          go_ret
          exact ⟨ret_intE (by rw [E.out, if_neg HN.out, if_neg HM.out]), rfl⟩

theorem l8Small_any (c : UInt8) (w : World) :
    Calls Tryd.prog 78 #[.int .u8 (c.toNat : Int)] w fun e w' => e = .returned (.bool (sml c)) ∧ w = w' := by
  have E : Hid (sml c = decide (97 ≤ c.toNat)) := rfl
  generalize sml c = r at *
  generalize c.toNat = n at *
  go_enter Tryd.func78, Tryd.ntmps78
  go_wp2
  go_ret
  exact ⟨ret_boolE (by rw [E.out, decide_eq_decide]; omega), rfl⟩

/-- Side k bears the letter of side i and is another one. -/
def isOther (l : List UInt8) (i k : Nat) : Bool := decide (k ≠ i) && (ltr (gb l k) == ltr (gb l i))
theorem par_at {l : List UInt8} {i k : Nat} (hk : k < l.length) (h : isOther l i k = true) (hn : ∀ j, j < k → isOther l i j = false) : par l i = k := by
  unfold par
  rw [show ((List.range l.length).find? fun j => decide (j ≠ i) && (ltr (gb l j) == ltr (gb l i))) = some k from ?_]
  · rfl
  · rw [List.find?_range_eq_some]
    exact ⟨h, by simpa using hk, fun j hj => by have := hn j hj; unfold isOther at this; rw [this]; rfl⟩
theorem par_none {l : List UInt8} {i : Nat} (hn : ∀ j, j < l.length → isOther l i j = false) : par l i = i := by
  unfold par
  rw [show ((List.range l.length).find? fun j => decide (j ≠ i) && (ltr (gb l j) == ltr (gb l i))) = none from ?_]
  · rfl
  · rw [List.find?_eq_none]
    intro j hj
    have := hn j (by simpa using hj)
    unfold isOther at this
    simp only [this, Bool.false_eq_true, not_false_eq_true]

set_option maxHeartbeats 800000 in
theorem l8Partner_any (s : ByteArray) (i : Nat) (w : World) (hs : s.size ≤ 1048576) (hi : i < s.size) :
    Calls Tryd.prog 76 #[.string s, .int .i64 (i : Int)] w fun e w' => e = .returned (.int .i64 (par s.data.toList i : Int)) ∧ ∃ q, w' = w.drewN q := by
  have HG := Lib.hid (gb_at s hi)
  go_enter Tryd.func76, Tryd.ntmps76
  go_wp2_with fail
  go_loopw [5] (fun kv wr => ∃ k q : Nat, k ≤ s.size ∧ kv = .int .i64 k ∧ wr = w.drewN q ∧ Hid (∀ j, j < k → isOther s.data.toList i j = false)) (fun kv _ => s.size - (intOf kv).toNat)
  case atStart => exact ⟨0, 0, Nat.zero_le _, rfl, rfl, fun j hj => absurd hj (by omega)⟩
  case round =>
    obtain ⟨k, q, hk, rfl, rfl, hno⟩ := hrel
    by_cases hlt : k < s.size
    · have HK := Lib.hid (gb_at s hlt)
      by_cases hki : k = i
      · have d1 : ((k : Int) != (i : Int)) = false := by simp; omega
        have HI := Lib.hid hki; clear hki
        go_wp2_with fail
        go_quiet (fail)
        go_wp2_with fail
        go_roundw
        case rel => exact ⟨k + 1, q + _, by omega, by go_num, rfl, fun j hj => by
          by_cases e : j = k
          · subst e; simp [isOther, HI.out]
          · exact hno.out j (by omega)⟩
        case measure => simp [intOf]; omega
      · have d1 : ((k : Int) != (i : Int)) = true := by simp; omega
        have HI := Lib.hid hki; clear hki
        obtain ⟨b, hb⟩ : ∃ b, (ltr s[k] == ltr s[i]) = b := ⟨_, rfl⟩
        have HO : Hid (isOther s.data.toList i k = b) := by rw [Hid, isOther, HK.out, HG.out, hb, decide_eq_true HI.out, Bool.true_and]
        cases b with
        | true =>
          go_wp2_with fail
          go_quiet ((go_at_call 77; exact (l8Letter_any _ _).mono fun e w' h => ⟨h.1, _, h.2.symm⟩))
          go_wp2_with fail
          go_ret
          exact ⟨ret_intE (by rw [par_at (by rw [len_str]; exact hlt) HO.out hno.out]), _, World.drewN_drewN _ _ _⟩
        | false =>
          go_wp2_with fail
          go_quiet ((go_at_call 77; exact (l8Letter_any _ _).mono fun e w' h => ⟨h.1, _, h.2.symm⟩))
          go_wp2_with fail
          go_roundw
          case rel => exact ⟨k + 1, q + _, by omega, by go_num, rfl, fun j hj => by
            by_cases e : j = k
            · subst e; exact HO.out
            · exact hno.out j (by omega)⟩
          case measure => simp [intOf]; omega
    · have hks : k = s.size := by omega
      have HS := Lib.hid hks; clear hks
      go_wp2_with fail
      go_ret
      exact ⟨ret_intE (by rw [par_none (fun j hj => hno.out j (by rw [HS.out]; rwa [len_str] at hj))]), _, rfl⟩

theorem goodAt_eq (l : List UInt8) (i : Nat) {x : Int} {n : Nat} (hx : ltr (gb l i) = x) (hn : ltc l x = n) : goodAt l i = (!(decide (x < 0) || ((n : Int) != 2))) := by
  unfold goodAt
  rw [hx, hn, Bool.eq_iff_iff]
  simp
  omega

set_option maxHeartbeats 1600000 in
theorem specWord_any (s : ByteArray) (w : World) (hs : s.size ≤ 1048576) {r : Bool} (hR : wordB s.data.toList = r) :
    Calls Tryd.prog 50 #[.string s] w fun e w' => e = .returned (.bool r) ∧ ∃ q, w' = w.drewN q := by
  have HR := Lib.hid hR; clear hR
  go_enter Tryd.func50, Tryd.ntmps50
  go_wp2_with fail
  go_loopw [3, 4, 5] (fun iv _ _ wr => ∃ i q : Nat, i ≤ s.size ∧ iv = .int .i64 i ∧ wr = w.drewN q ∧ Hid (∀ j, j < i → goodAt s.data.toList j = true)) (fun iv _ _ _ => s.size - (intOf iv).toNat)
  case atStart => exact ⟨0, 0, Nat.zero_le _, rfl, rfl, fun j hj => absurd hj (by omega)⟩
  case round =>
    obtain ⟨i, q, hi, rfl, rfl, hall⟩ := hrel
    by_cases hlt : i < s.size
    · have HG := Lib.hid (gb_at s hlt)
      obtain ⟨x, hx⟩ : ∃ x, ltr s[i] = x := ⟨_, rfl⟩
      have HX := Lib.hid hx; clear hx
      go_wp2_with fail
      go_loopw [4, 5] (fun nv kv wr => ∃ n k q : Nat, k ≤ s.size ∧ n ≤ k ∧ nv = .int .i64 n ∧ kv = .int .i64 k ∧ wr = w.drewN q ∧ Hid (ltc (s.data.toList.take k) x = n)) (fun _ kv _ => s.size - (intOf kv).toNat)
      case atStart => exact ⟨0, 0, q, Nat.zero_le _, Nat.le_refl _, rfl, rfl, rfl, rfl⟩
      case round =>
        obtain ⟨n, k, q, hk, hnk, rfl, rfl, rfl, hn⟩ := hrel
        by_cases hlt2 : k < s.size
        · have hts : s.data.toList.take (k + 1) = s.data.toList.take k ++ [s[k]] := by
            rw [List.take_succ_eq_append_getElem (by simpa using hlt2)]; rfl
          have hc := ltc_snoc (s.data.toList.take k) s[k] x
          rw [← hts, hn.out] at hc
          have HC := Lib.hid hc; clear hc hts
          by_cases e : ltr s[k] = x
          · have d1 : (ltr s[k] == ltr s[i]) = true := by rw [HX.out]; simp [e]
            have HE := Lib.hid e; clear e
            go_wp2_with fail
            go_quiet ((go_at_call 77; exact (l8Letter_any _ _).mono fun e w' h => ⟨h.1, _, h.2.symm⟩))
            go_wp2_with fail
            go_roundw
            case rel => exact ⟨n + 1, k + 1, q + _, by omega, by omega, by go_num, by go_num, rfl, by rw [Hid, HC.out, if_pos HE.out]⟩
            case measure => simp [intOf]; omega
          · have d1 : (ltr s[k] == ltr s[i]) = false := by rw [HX.out]; simp [e]
            have HE := Lib.hid e; clear e
            go_wp2_with fail
            go_quiet ((go_at_call 77; exact (l8Letter_any _ _).mono fun e w' h => ⟨h.1, _, h.2.symm⟩))
            go_wp2_with fail
            go_roundw
            case rel => exact ⟨n, k + 1, q + _, by omega, by omega, rfl, by go_num, rfl, by rw [Hid, HC.out, if_neg HE.out]; rfl⟩
            case measure => simp [intOf]; omega
        · have hks : k = s.size := by omega
          have hn2 : ltc s.data.toList x = n := by
            have := hn.out
            rwa [hks, List.take_of_length_le (by simp)] at this
          have hg := goodAt_eq s.data.toList i (x := x) (n := n) (by rw [HG.out, HX.out]) hn2
          have HGO := Lib.hid hg; clear hg hn2 hks
          by_cases h0 : x < 0
          · have d1 : decide (ltr s[i] < 0) = true := by rw [HX.out]; simp [h0]
            have HN : Hid (r = false) := by
              rw [Hid, ← HR.out]
              refine wordB_no (i := i) (by rw [len_str]; exact hlt) ?_
              rw [HGO.out, decide_eq_true h0]; rfl
            clear h0
            go_wp2_with (go_at_call 77; refine (l8Letter_any _ _).mono ?_; rintro e w' ⟨rfl, rfl⟩)
            go_ret
            exact ⟨ret_boolE HN.out.symm, _, rfl⟩
          · have d1 : decide (ltr s[i] < 0) = false := by rw [HX.out]; simp; omega
            by_cases h2 : n = 2
            · have d2 : ((n : Int) != 2) = false := by rw [h2]; rfl
              have HN : Hid (goodAt s.data.toList i = true) := by rw [Hid, HGO.out, d2, decide_eq_false h0]; rfl
              clear h0 h2
              go_wp2_with (go_at_call 77; refine (l8Letter_any _ _).mono ?_; rintro e w' ⟨rfl, rfl⟩)
              go_roundw
              case rel => exact ⟨i + 1, q, by omega, by go_num, rfl, fun j hj => by
                by_cases e : j = i
                · subst e; exact HN.out
                · exact hall.out j (by omega)⟩
              case measure => simp [intOf]; omega
            · have d2 : ((n : Int) != 2) = true := by simp; omega
              have HN : Hid (r = false) := by
                rw [Hid, ← HR.out]
                refine wordB_no (i := i) (by rw [len_str]; exact hlt) ?_
                rw [HGO.out, d2, Bool.or_true]; rfl
              clear h0 h2
              go_wp2_with (go_at_call 77; refine (l8Letter_any _ _).mono ?_; rintro e w' ⟨rfl, rfl⟩)
              go_ret
              exact ⟨ret_boolE HN.out.symm, _, rfl⟩
    · have hks : i = s.size := by omega
      have HN : Hid (r = decide (0 < s.size)) := by
        rw [Hid, ← HR.out, wordB, len_str, show (List.range s.size).all (goodAt s.data.toList) = true from List.all_eq_true.2 fun j hj => hall.out j (by rw [hks]; simpa using hj), Bool.and_true]
      clear hks
      go_wp2_with fail
      go_ret
      exact ⟨ret_boolE (by rw [HN.out]), _, rfl⟩

end Go.Proofs.YtfdliekhlcbkcaaDoor

namespace Go.Proofs.YtfdliekhlcbkcaaDoor
open Go.RowKit

/-- A letter in its small form. -/
def low (c : UInt8) : UInt8 := c ||| 32
theorem low_all : ∀ n, n < 256 → (ltr (UInt8.ofNat n) < 0 ∧ ((low (UInt8.ofNat n)).toNat < 97 ∨ 102 ≤ (low (UInt8.ofNat n)).toNat)) ∨ ((low (UInt8.ofNat n)).toNat < 102 ∧ ((low (UInt8.ofNat n)).toNat : Int) = 97 + ltr (UInt8.ofNat n) ∧ 0 ≤ ltr (UInt8.ofNat n)) := by decide +kernel
theorem low_eq (c : UInt8) : (ltr c < 0 ∧ ((low c).toNat < 97 ∨ 102 ≤ (low c).toNat)) ∨ ((low c).toNat < 102 ∧ ((low c).toNat : Int) = 97 + ltr c ∧ 0 ≤ ltr c) := by
  have := low_all c.toNat (by have := c.toNat_lt; omega)
  rwa [show UInt8.ofNat c.toNat = c from by simp] at this
theorem or_low (c : UInt8) : bits .or .u8 (c.toNat : Int) 32 = ((low c).toNat : Int) := by
  have h : ∀ n, n < 256 → bits .or .u8 ((UInt8.ofNat n).toNat : Int) 32 = ((low (UInt8.ofNat n)).toNat : Int) := by decide +kernel
  have := h c.toNat (by have := c.toNat_lt; omega)
  rwa [show UInt8.ofNat c.toNat = c from by simp] at this
theorem small_any (c : UInt8) (w : World) :
    Calls Tryd.prog 80 #[.int .u8 (c.toNat : Int)] w fun e w' => e = .returned (.int .u8 ((low c).toNat : Int)) ∧ w = w' := by
  have E := Lib.hid (or_low c)
  go_enter Tryd.func80, Tryd.ntmps80
  go_wp2
  go_ret
  exact ⟨ret_intE E.out, rfl⟩

/-- Five numbers of a block of one's own: how often each letter is there. -/
def Tally (w : World) (b : Nat) (l : List UInt8) : Prop :=
  w.heap[b]? = some (.cells #[.int .i64 (ltc l 0), .int .i64 (ltc l 1), .int .i64 (ltc l 2), .int .i64 (ltc l 3), .int .i64 (ltc l 4)] 82 (0, 0))
theorem Tally.frozen {w : World} {b : Nat} {l : List UInt8} (h : Tally w b l) (j : Nat) : w.frozen? ⟨b, j, none⟩ = false := frozen_of_row w b j _ _ h
theorem Tally.cell {w : World} {b : Nat} {l : List UInt8} (h : Tally w b l) {j : Nat} (hj : j < 5) : w.cell? ⟨b, j, none⟩ = some (.int .i64 (ltc l j)) := by
  rw [cell_of_row w b j _ _ (0, 0) h]
  match j, hj with
  | 0, _ => rfl
  | 1, _ => rfl
  | 2, _ => rfl
  | 3, _ => rfl
  | 4, _ => rfl
theorem Tally.new (w : World) : Tally (w.alloc (.cells #[.int .i64 0, .int .i64 0, .int .i64 0, .int .i64 0, .int .i64 0] 82)) w.heap.size [] := heap_alloc_new w _
theorem Tally.set {w : World} {b x : Nat} {l : List UInt8} {c : UInt8} (h : Tally w b l) (hx : x < 5) (hc : ltr c = (x : Int)) : Tally (w.setCell ⟨b, x, none⟩ (.int .i64 ((ltc l x : Nat) + 1 : Int))) b (l ++ [c]) := by
  unfold Tally at *
  simp only [World.setCell, Array.getElem?_modify, h, ltc_snoc, hc]
  match x, hx with
  | 0, _ => rfl
  | 1, _ => rfl
  | 2, _ => rfl
  | 3, _ => rfl
  | 4, _ => rfl

theorem idx5 (c0 c1 c2 c3 c4 : Int) (w : World) :
    (Instr.index 82 (.agg #[.int .i64 c0, .int .i64 c1, .int .i64 c2, .int .i64 c3, .int .i64 c4]) (.int .i64 0)).run Tryd.prog w = .ok (.int .i64 c0) w ∧
    (Instr.index 82 (.agg #[.int .i64 c0, .int .i64 c1, .int .i64 c2, .int .i64 c3, .int .i64 c4]) (.int .i64 1)).run Tryd.prog w = .ok (.int .i64 c1) w ∧
    (Instr.index 82 (.agg #[.int .i64 c0, .int .i64 c1, .int .i64 c2, .int .i64 c3, .int .i64 c4]) (.int .i64 2)).run Tryd.prog w = .ok (.int .i64 c2) w ∧
    (Instr.index 82 (.agg #[.int .i64 c0, .int .i64 c1, .int .i64 c2, .int .i64 c3, .int .i64 c4]) (.int .i64 3)).run Tryd.prog w = .ok (.int .i64 c3) w ∧
    (Instr.index 82 (.agg #[.int .i64 c0, .int .i64 c1, .int .i64 c2, .int .i64 c3, .int .i64 c4]) (.int .i64 4)).run Tryd.prog w = .ok (.int .i64 c4) w := by
  have h : Tryd.prog.underlying 82 = some (.array 5 3) := Tryd.underlying82
  refine ⟨?_, ?_, ?_, ?_, ?_⟩ <;> simp [Instr.index, run_underlying h, part, go_sem]

theorem fine_eq {l : List UInt8} {k : Int} {n : Nat} (h : ltc l k = n) : fine l k = !(((n : Int) != 0) && ((n : Int) != 2)) := by
  unfold fine; rw [h, Bool.eq_iff_iff]; simp; omega
theorem wordB_fine {l : List UInt8} {k : Int} {n : Nat} (h2 : 2 ≤ l.length) (hl : ∀ c, c ∈ l → 0 ≤ ltr c) (hk : k = 0 ∨ k = 1 ∨ k = 2 ∨ k = 3 ∨ k = 4) (hc : ltc l k = n) (h0 : n ≠ 0) (h : n ≠ 2) : wordB l = false := by
  have hf : fine l k = false := by rw [fine_eq hc]; simp; omega
  rw [wordB_prog h2 hl]
  rcases hk with rfl | rfl | rfl | rfl | rfl <;> simp [hf]
theorem wordB_fines {l : List UInt8} (h2 : 2 ≤ l.length) (hl : ∀ c, c ∈ l → 0 ≤ ltr c) (h0 : fine l 0 = true) (h1 : fine l 1 = true) (h2' : fine l 2 = true) (h3 : fine l 3 = true) (h4 : fine l 4 = true) : wordB l = true := by
  rw [wordB_prog h2 hl, h0, h1, h2', h3, h4]; rfl

set_option maxHeartbeats 1600000 in
theorem implWord_in (s : ByteArray) (w : World) (h2 : 2 ≤ s.size) (h10 : s.size ≤ 10) {r : Bool} (hR : wordB s.data.toList = r) :
    Calls Tryd.prog 39 #[.string s] w fun e w' => e = .returned (.bool r) ∧ Below w.heap.size w w' := by
  have HR := Lib.hid hR; clear hR
  have hd1 : decide ((s.size : Int) < 2) = false := by simp; omega
  have hd2 : decide ((10 : Int) < s.size) = false := by simp; omega
  go_enter Tryd.func39, Tryd.ntmps39
  go_wp2
  go_loopw [18] (fun iv wr => ∃ k : Nat, k ≤ s.size ∧ iv = .int .i64 k ∧ Hid (Tally wr w.heap.size (s.data.toList.take k)) ∧ Hid (Below w.heap.size w wr) ∧ Hid (∀ c, c ∈ s.data.toList.take k → 0 ≤ ltr c)) (fun iv _ => s.size - (intOf iv).toNat)
  case atStart => exact ⟨0, Nat.zero_le _, rfl, Tally.new _, (Below.refl _ _).alloc (Nat.le_refl _) _, fun c hc => by simp at hc⟩
  case round =>
    obtain ⟨k, hk, rfl, ht, hb, hall⟩ := hrel
    by_cases hlt : k < s.size
    · have hts : s.data.toList.take (k + 1) = s.data.toList.take k ++ [s[k]] := by
        rw [List.take_succ_eq_append_getElem (by simpa using hlt)]; rfl
      have HTS := Lib.hid hts; clear hts
      obtain ⟨m, hm⟩ : ∃ m, (low s[k]).toNat = m := ⟨_, rfl⟩
      have hlow := low_eq s[k]
      rw [hm] at hlow
      have HM := Lib.hid hm
      have hm8 : m < 256 := by rw [← hm]; exact (low s[k]).toNat_lt
      clear hm
      by_cases hin : 0 ≤ ltr s[k]
      · obtain ⟨x, hx⟩ := Int.eq_ofNat_of_zero_le hin
        rw [hx] at hlow
        have hx5 : x < 5 := by have := (ltr_range s[k]).2; omega
        have hmx : (m : Int) = 97 + (x : Int) := by omega
        have hs1 := (ht.out.cell hx5)
        have hs2 := ht.out.frozen x
        have hle : ltc (s.data.toList.take k) x ≤ 10 := by
          have : ltc (s.data.toList.take k) x ≤ (s.data.toList.take k).length := List.countP_le_length
          have h3 : (s.data.toList.take k).length ≤ k := List.length_take_le _ _
          omega
        obtain ⟨n, hn⟩ : ∃ n, ltc (s.data.toList.take k) x = n := ⟨_, rfl⟩
        rw [hn] at hs1 hle
        have HN := Lib.hid hn; have HX := Lib.hid hx; have HL := Lib.hid hlow; have HIN := Lib.hid hin; clear hn hx hlow hin
        have hmx2 : (m : Int) - 97 = (x : Int) := by omega
        have g1 : 97 ≤ m := by omega
        have g2 : m < 102 := by omega
        clear hmx
        go_wp2_with (go_at_call 80; refine (small_any _ _).mono ?_; rintro e w' ⟨rfl, rfl⟩; rw [HM.out])
        go_roundw
        case rel => exact ⟨k + 1, by omega, by go_num, by rw [HTS.out]; have := ht.out.set hx5 HX.out; rw [HN.out] at this; exact this, hb.out.setCell (Nat.le_refl _) _, fun c hc => by
            rw [HTS.out] at hc
            rcases List.mem_append.1 hc with h | h
            · exact hall.out c h
            · rw [List.mem_singleton.1 h]; exact HIN.out⟩
        case measure => simp [intOf]; omega
      · have HN : Hid (r = false) := by
          rw [Hid, ← HR.out]
          exact wordB_letter (c := s[k]) (List.getElem_mem _) (by omega)
        have hmo : m < 97 ∨ 102 ≤ m := by omega
        clear hlow hin
        rcases hmo with g1 | g2
        · go_wp2_with (go_at_call 80; refine (small_any _ _).mono ?_; rintro e w' ⟨rfl, rfl⟩; rw [HM.out])
          go_ret
          exact ⟨ret_boolE HN.out.symm, hb.out⟩
        · have g3 : 97 ≤ m := by omega
          go_wp2_with (go_at_call 80; refine (small_any _ _).mono ?_; rintro e w' ⟨rfl, rfl⟩; rw [HM.out])
          go_ret
          exact ⟨ret_boolE HN.out.symm, hb.out⟩
    · have hks : k = s.size := by omega
      have hta : s.data.toList.take k = s.data.toList := by rw [hks]; exact List.take_of_length_le (by simp)
      have HT : Hid (Tally wr w.heap.size s.data.toList) := by have := ht.out; rwa [hta] at this
      have HA : Hid (∀ c, c ∈ s.data.toList → 0 ≤ ltr c) := by have := hall.out; rwa [hta] at this
      clear ht hall hks hta
      have H2 : Hid (2 ≤ s.data.toList.length) := by rw [Hid, len_str]; exact h2
      obtain ⟨c0, e0⟩ : ∃ c, ltc s.data.toList 0 = c := ⟨_, rfl⟩
      obtain ⟨c1, e1⟩ : ∃ c, ltc s.data.toList 1 = c := ⟨_, rfl⟩
      obtain ⟨c2, e2⟩ : ∃ c, ltc s.data.toList 2 = c := ⟨_, rfl⟩
      obtain ⟨c3, e3⟩ : ∃ c, ltc s.data.toList 3 = c := ⟨_, rfl⟩
      obtain ⟨c4, e4⟩ : ∃ c, ltc s.data.toList 4 = c := ⟨_, rfl⟩
      have HTL : Hid (wr.heap[w.heap.size]? = some (.cells #[.int .i64 c0, .int .i64 c1, .int .i64 c2, .int .i64 c3, .int .i64 c4] 82 (0, 0))) := by
        have := HT.out; unfold Tally at this; rwa [e0, e1, e2, e3, e4] at this
      have E0 := Lib.hid e0; have E1 := Lib.hid e1; have E2 := Lib.hid e2; have E3 := Lib.hid e3; have E4 := Lib.hid e4
      clear e0 e1 e2 e3 e4 HT
      go_wp2_with (refine wpList_load_row rfl 82 _ rfl w.heap.size rfl 82 _ (0, 0) _ HTL.out Tryd.underlying82 rfl (by kernel_rfl) ?_)
      have i0 := fun w => (idx5 c0 c1 c2 c3 c4 w).1
      have i1 := fun w => (idx5 c0 c1 c2 c3 c4 w).2.1
      have i2 := fun w => (idx5 c0 c1 c2 c3 c4 w).2.2.1
      have i3 := fun w => (idx5 c0 c1 c2 c3 c4 w).2.2.2.1
      have i4 := fun w => (idx5 c0 c1 c2 c3 c4 w).2.2.2.2
      go_loop [39] (fun kv => ∃ k : Nat, k ≤ 5 ∧ kv = .int .i64 k ∧ Hid (∀ j : Nat, j < k → fine s.data.toList (j : Int) = true)) (fun kv => 5 - (intOf kv).toNat)
      case atStart => exact ⟨0, by omega, rfl, fun j hj => absurd hj (by omega)⟩
      case round =>
        obtain ⟨k, hk, rfl, hf⟩ := hrel
        by_cases hk0 : k = 0
        · subst hk0
          clear i1 i2 i3 i4
          by_cases a0 : c0 = 0
          · have d1 : ((c0 : Int) != 0) = false := by simp [a0]
            have FK : Hid (fine s.data.toList 0 = true) := by rw [Hid, fine_eq E0.out, d1]; rfl
            clear a0
            go_wp2
            go_round
            case rel => exact ⟨1, by omega, rfl, fun j hj => by
              by_cases e : j = 0
              · subst e; exact FK.out
              · exact hf.out j (by omega)⟩
            case measure => simp [intOf]
          · have d1 : ((c0 : Int) != 0) = true := by simp; omega
            by_cases a2 : c0 = 2
            · have d2 : ((c0 : Int) != 2) = false := by rw [a2]; rfl
              have FK : Hid (fine s.data.toList 0 = true) := by rw [Hid, fine_eq E0.out, d2, Bool.and_false]; rfl
              clear a0 a2
              go_wp2
              go_round
              case rel => exact ⟨1, by omega, rfl, fun j hj => by
                by_cases e : j = 0
                · subst e; exact FK.out
                · exact hf.out j (by omega)⟩
              case measure => simp [intOf]
            · have d2 : ((c0 : Int) != 2) = true := by simp; omega
              have HN : Hid (r = false) := by rw [Hid, ← HR.out]; exact wordB_fine H2.out HA.out (by omega) E0.out a0 a2
              clear a0 a2
              go_wp2
              go_ret
              exact ⟨ret_boolE HN.out.symm, hb.out⟩
        by_cases hk1 : k = 1
        · subst hk1
          clear i0 i2 i3 i4
          by_cases a0 : c1 = 0
          · have d1 : ((c1 : Int) != 0) = false := by simp [a0]
            have FK : Hid (fine s.data.toList 1 = true) := by rw [Hid, fine_eq E1.out, d1]; rfl
            clear a0
            go_wp2
            go_round
            case rel => exact ⟨2, by omega, rfl, fun j hj => by
              by_cases e : j = 1
              · subst e; exact FK.out
              · exact hf.out j (by omega)⟩
            case measure => simp [intOf]
          · have d1 : ((c1 : Int) != 0) = true := by simp; omega
            by_cases a2 : c1 = 2
            · have d2 : ((c1 : Int) != 2) = false := by rw [a2]; rfl
              have FK : Hid (fine s.data.toList 1 = true) := by rw [Hid, fine_eq E1.out, d2, Bool.and_false]; rfl
              clear a0 a2
              go_wp2
              go_round
              case rel => exact ⟨2, by omega, rfl, fun j hj => by
                by_cases e : j = 1
                · subst e; exact FK.out
                · exact hf.out j (by omega)⟩
              case measure => simp [intOf]
            · have d2 : ((c1 : Int) != 2) = true := by simp; omega
              have HN : Hid (r = false) := by rw [Hid, ← HR.out]; exact wordB_fine H2.out HA.out (by omega) E1.out a0 a2
              clear a0 a2
              go_wp2
              go_ret
              exact ⟨ret_boolE HN.out.symm, hb.out⟩
        by_cases hk2 : k = 2
        · subst hk2
          clear i0 i1 i3 i4
          by_cases a0 : c2 = 0
          · have d1 : ((c2 : Int) != 0) = false := by simp [a0]
            have FK : Hid (fine s.data.toList 2 = true) := by rw [Hid, fine_eq E2.out, d1]; rfl
            clear a0
            go_wp2
            go_round
            case rel => exact ⟨3, by omega, rfl, fun j hj => by
              by_cases e : j = 2
              · subst e; exact FK.out
              · exact hf.out j (by omega)⟩
            case measure => simp [intOf]
          · have d1 : ((c2 : Int) != 0) = true := by simp; omega
            by_cases a2 : c2 = 2
            · have d2 : ((c2 : Int) != 2) = false := by rw [a2]; rfl
              have FK : Hid (fine s.data.toList 2 = true) := by rw [Hid, fine_eq E2.out, d2, Bool.and_false]; rfl
              clear a0 a2
              go_wp2
              go_round
              case rel => exact ⟨3, by omega, rfl, fun j hj => by
                by_cases e : j = 2
                · subst e; exact FK.out
                · exact hf.out j (by omega)⟩
              case measure => simp [intOf]
            · have d2 : ((c2 : Int) != 2) = true := by simp; omega
              have HN : Hid (r = false) := by rw [Hid, ← HR.out]; exact wordB_fine H2.out HA.out (by omega) E2.out a0 a2
              clear a0 a2
              go_wp2
              go_ret
              exact ⟨ret_boolE HN.out.symm, hb.out⟩
        by_cases hk3 : k = 3
        · subst hk3
          clear i0 i1 i2 i4
          by_cases a0 : c3 = 0
          · have d1 : ((c3 : Int) != 0) = false := by simp [a0]
            have FK : Hid (fine s.data.toList 3 = true) := by rw [Hid, fine_eq E3.out, d1]; rfl
            clear a0
            go_wp2
            go_round
            case rel => exact ⟨4, by omega, rfl, fun j hj => by
              by_cases e : j = 3
              · subst e; exact FK.out
              · exact hf.out j (by omega)⟩
            case measure => simp [intOf]
          · have d1 : ((c3 : Int) != 0) = true := by simp; omega
            by_cases a2 : c3 = 2
            · have d2 : ((c3 : Int) != 2) = false := by rw [a2]; rfl
              have FK : Hid (fine s.data.toList 3 = true) := by rw [Hid, fine_eq E3.out, d2, Bool.and_false]; rfl
              clear a0 a2
              go_wp2
              go_round
              case rel => exact ⟨4, by omega, rfl, fun j hj => by
                by_cases e : j = 3
                · subst e; exact FK.out
                · exact hf.out j (by omega)⟩
              case measure => simp [intOf]
            · have d2 : ((c3 : Int) != 2) = true := by simp; omega
              have HN : Hid (r = false) := by rw [Hid, ← HR.out]; exact wordB_fine H2.out HA.out (by omega) E3.out a0 a2
              clear a0 a2
              go_wp2
              go_ret
              exact ⟨ret_boolE HN.out.symm, hb.out⟩
        by_cases hk4 : k = 4
        · subst hk4
          clear i0 i1 i2 i3
          by_cases a0 : c4 = 0
          · have d1 : ((c4 : Int) != 0) = false := by simp [a0]
            have FK : Hid (fine s.data.toList 4 = true) := by rw [Hid, fine_eq E4.out, d1]; rfl
            clear a0
            go_wp2
            go_round
            case rel => exact ⟨5, by omega, rfl, fun j hj => by
              by_cases e : j = 4
              · subst e; exact FK.out
              · exact hf.out j (by omega)⟩
            case measure => simp [intOf]
          · have d1 : ((c4 : Int) != 0) = true := by simp; omega
            by_cases a2 : c4 = 2
            · have d2 : ((c4 : Int) != 2) = false := by rw [a2]; rfl
              have FK : Hid (fine s.data.toList 4 = true) := by rw [Hid, fine_eq E4.out, d2, Bool.and_false]; rfl
              clear a0 a2
              go_wp2
              go_round
              case rel => exact ⟨5, by omega, rfl, fun j hj => by
                by_cases e : j = 4
                · subst e; exact FK.out
                · exact hf.out j (by omega)⟩
              case measure => simp [intOf]
            · have d2 : ((c4 : Int) != 2) = true := by simp; omega
              have HN : Hid (r = false) := by rw [Hid, ← HR.out]; exact wordB_fine H2.out HA.out (by omega) E4.out a0 a2
              clear a0 a2
              go_wp2
              go_ret
              exact ⟨ret_boolE HN.out.symm, hb.out⟩
        have hk5 : k = 5 := by omega
        subst hk5
        have HN : Hid (r = true) := by
          rw [Hid, ← HR.out]
          exact wordB_fines H2.out HA.out (hf.out 0 (by omega)) (hf.out 1 (by omega)) (hf.out 2 (by omega)) (hf.out 3 (by omega)) (hf.out 4 (by omega))
        clear hk0 hk1 hk2 hk3 hk4
        go_wp2
        go_ret
        exact ⟨ret_boolE HN.out.symm, hb.out⟩

theorem implWord_any (s : ByteArray) (w : World) (hs : s.size ≤ 1048576) {r : Bool} (hR : wordB s.data.toList = r) :
    Calls Tryd.prog 39 #[.string s] w fun e w' => e = .returned (.bool r) ∧ Below w.heap.size w w' := by
  by_cases h1 : 2 ≤ s.size
  · by_cases h2 : s.size ≤ 10
    · exact implWord_in s w h1 h2 hR
    · have E := Lib.hid ((wordB_short (l := s.data.toList) (by rw [len_str]; omega)).symm.trans hR)
      have hd1 : decide ((s.size : Int) < 2) = false := by simp; omega
      have hd2 : decide ((10 : Int) < s.size) = true := by simp; omega
      clear hR
      go_enter Tryd.func39, Tryd.ntmps39
      go_wp2
      go_ret
      exact ⟨ret_boolE E.out, Below.refl _ _⟩
  · have E := Lib.hid ((wordB_short (l := s.data.toList) (by rw [len_str]; omega)).symm.trans hR)
    have hd1 : decide ((s.size : Int) < 2) = true := by simp; omega
    clear hR
    go_enter Tryd.func39, Tryd.ntmps39
    go_wp2
    go_ret
    exact ⟨ret_boolE E.out, Below.refl _ _⟩

/-! ### The contracts that the laws ask for -/
def wvR (l : List UInt8) : Bool := wordB l
theorem spec_wvR (w : World) (s : ByteArray) (hs : s.size ≤ 1048576) {r : Bool} (hR : wvR s.data.toList = r) :
    Calls Tryd.prog 50 #[.string s] w fun e w' => e = .returned (.bool r) ∧ Below w.heap.size w w' :=
  (specWord_any s w hs hR).mono fun _ _ ⟨he, k, hw⟩ => ⟨he, hw ▸ below_drewN (Below.refl _ _) k⟩
theorem impl_wvR (w : World) (s : ByteArray) (hs : s.size ≤ 1048576) {r : Bool} (hR : wvR s.data.toList = r) :
    Calls Tryd.prog 39 #[.string s] w fun e w' => e = .returned (.bool r) ∧ Below w.heap.size w w' := implWord_any s w hs hR

end Go.Proofs.YtfdliekhlcbkcaaDoor
