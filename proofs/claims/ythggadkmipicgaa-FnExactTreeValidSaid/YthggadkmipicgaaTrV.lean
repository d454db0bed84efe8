/-
  TreeValid: the model's and the program's.
-/
import Derived.Test.YthggadkmipicgaaKitT
import Derived.Test.YthggadkmipicgaaCnt
import Derived.Laws.IdiomStrings
namespace Go.Proofs.Ythggadkmipicgaa
open Go.RowKit

/-- The height behind a letter. -/
def stp : Option Nat → UInt8 → Option Nat
  | none, _ => none
  | some h, c => if c = 40 then some (h + 1) else if c = 41 then (if h = 0 then none else some (h - 1)) else none
def scan (l : List UInt8) : Option Nat := l.foldl stp (some 0)
def opens (l : List UInt8) : Nat := l.countP (· = 40)
theorem scan_snoc (l : List UInt8) (c : UInt8) : scan (l ++ [c]) = stp (scan l) c := by simp [scan]
theorem opens_snoc (l : List UInt8) (c : UInt8) : opens (l ++ [c]) = opens l + if c = 40 then 1 else 0 := by simp [opens, List.countP_append, List.countP_cons]
theorem stp_none (l : List UInt8) : l.foldl stp none = none := by
  induction l with
  | nil => rfl
  | cons c r ih => rw [List.foldl_cons]; exact ih
theorem scan_len : ∀ (l : List UInt8) (h h' : Nat), l.foldl stp (some h) = some h' → l.length + h' = 2 * opens l + h := by
  intro l
  induction l with
  | nil => intro h h' e; simp at e; simp [opens, e]
  | cons c r ih =>
    intro h h' e
    rw [List.foldl_cons] at e
    by_cases h1 : c = 40
    · rw [show stp (some h) c = some (h + 1) from by simp [stp, h1]] at e
      have := ih _ _ e
      simp only [opens, List.countP_cons, h1] at *
      simp only [List.length_cons, decide_true, if_true]
      omega
    · by_cases h2 : c = 41
      · by_cases h0 : h = 0
        · rw [show stp (some h) c = none from by simp [stp, h2, h0], stp_none] at e
          cases e
        · rw [show stp (some h) c = some (h - 1) from by simp [stp, h2, h0]] at e
          have := ih _ _ e
          simp only [opens, List.countP_cons, h1] at *
          simp only [List.length_cons, decide_false, Bool.false_eq_true, if_false]
          omega
      · rw [show stp (some h) c = none from by simp [stp, h1, h2], stp_none] at e
        cases e
theorem scan_none_take {l : List UInt8} {k : Nat} (h : scan (l.take k) = none) : scan l = none := by
  have : l = l.take k ++ l.drop k := (List.take_append_drop k l).symm
  rw [this, scan, List.foldl_append]
  rw [scan] at h
  rw [h, stp_none]
theorem take_snocB (s : ByteArray) (k : Nat) (h : k < s.size) : s.data.toList.take (k + 1) = s.data.toList.take k ++ [s[k]] := by
  rw [List.take_succ_eq_append_getElem (by simpa using h)]; rfl
theorem take_allB (s : ByteArray) : s.data.toList.take s.size = s.data.toList := List.take_of_length_le (by simp)

theorem ne_byte {c d : UInt8} {n : Int} (h : c ≠ d) (hd : (d.toNat : Int) = n) : ((c.toNat : Int) == n) = false := by
  rw [beq_eq_false_iff_ne]
  intro e
  exact h (UInt8.toNat_inj.1 (by omega))
/-- All steps lie from -1 to 1. -/
def stepsB (xs : List Int) (k : Nat) : Bool := (xs.take k).all fun x => decide (-1 ≤ x) && decide (x ≤ 1)
theorem stepsB_succ {xs : List Int} {k : Nat} (h : k < xs.length) : stepsB xs (k + 1) = (stepsB xs k && (decide (-1 ≤ gi xs k) && decide (gi xs k ≤ 1))) := by
  unfold stepsB
  rw [List.take_succ_eq_append_getElem h, List.all_append, gi_eq h]
  simp
theorem stepsB_no {xs : List Int} {k : Nat} (h : k < xs.length) (hb : (decide (-1 ≤ gi xs k) && decide (gi xs k ≤ 1)) = false) : stepsB xs xs.length = false := by
  unfold stepsB
  rw [List.take_length, List.all_eq_false]
  refine ⟨xs[k], List.getElem_mem h, ?_⟩
  rw [gi_eq h] at hb
  simpa using hb
def treeV (s : ByteArray) (xs : List Int) : Bool := decide (1 ≤ xs.length) && decide (xs.length ≤ 3) && decide (s.size = 2 * xs.length) && stepsB xs xs.length && decide (scan s.data.toList = some 0)

set_option maxHeartbeats 1600000 in
theorem spec_treeV (w : World) (s : ByteArray) (A : Option Addr) (n c : Nat) (xs : List Int) (hs : s.size ≤ 1048576) (h : Rd w A n xs) (hn : n ≤ 1048576) {r : Bool} (hR : treeV s xs = r) :
    Calls Try.prog 12 #[.agg #[.string s, .slice A n c]] w fun e w' => e = .returned (.bool r) ∧ Below w.heap.size w w' := by
  have H := Lib.hid h; have Hx := Lib.hid h.1; have HR := Lib.hid hR; clear h hR
  obtain ⟨W0, hW0, hx, hb, -⟩ := Box.local_ w 27 (.string s) (.slice A n c)
  have c0 := hx.cell0
  have c1 := hx.cell1
  have HB := Lib.hid hb; clear hx hb
  go_enter Try.func12, Try.ntmps12
  go_wp2_with fail
  go_loop [3, 4, 5] (fun uv nv iv => ∃ (k h m : Nat), k ≤ s.size ∧ h ≤ k ∧ m ≤ k ∧ uv = .int .i64 h ∧ nv = .int .i64 m ∧ iv = .int .i64 k ∧ Hid (scan (s.data.toList.take k) = some h) ∧ Hid (m = opens (s.data.toList.take k))) (fun _ _ iv => s.size - (intOf iv).toNat)
  case atStart => exact ⟨0, 0, 0, Nat.zero_le _, Nat.le_refl _, Nat.le_refl _, rfl, rfl, rfl, rfl, rfl⟩
  case round =>
    obtain ⟨k, h, m, hk, hh, hm, rfl, rfl, rfl, hS, hO⟩ := hrel
    by_cases hlt : k < s.size
    · have hts := take_snocB s k hlt
      have hs1 := scan_snoc (s.data.toList.take k) s[k]
      have ho1 := opens_snoc (s.data.toList.take k) s[k]
      rw [← hts, hS.out] at hs1
      rw [← hts, ← hO.out] at ho1
      have HS1 := Lib.hid hs1; have HO1 := Lib.hid ho1
      clear hts hs1 ho1
      by_cases e40 : s[k] = 40
      · have d1 : ((s[k].toNat : Int) == 40) = true := by rw [e40]; rfl
        have E := Lib.hid e40; clear e40
        go_wp2_with fail
        go_round
        case rel => exact ⟨k + 1, h + 1, m + 1, by omega, by omega, by omega, by go_num, by go_num, by go_num, by rw [Hid, HS1.out]; simp [stp, E.out], by rw [Hid, HO1.out, if_pos E.out]⟩
        case measure => simp [intOf]; omega
      have d1 : ((s[k].toNat : Int) == 40) = false := ne_byte e40 (by decide)
      by_cases e41 : s[k] = 41
      · have d2 : ((s[k].toNat : Int) == 41) = true := by rw [e41]; rfl
        have E := Lib.hid (And.intro e40 e41); clear e40 e41
        by_cases h0 : h = 0
        · have HN : Hid (r = false) := by
            rw [Hid, ← HR.out]
            have : scan (s.data.toList.take (k + 1)) = none := by rw [HS1.out, h0]; simp [stp, E.out.2]
            simp [treeV, scan_none_take this]
          have hneg : ((h : Int) - 1 < 0) := by omega
          clear h0
          go_wp2_with fail
          go_ret
          exact ⟨ret_bool HN.out.symm, HB.out⟩
        · have hneg : 0 ≤ (h : Int) - 1 := by omega
          have H0 := Lib.hid h0
          have hm1 : ((h : Int) - 1) = ((h - 1 : Nat) : Int) := by omega
          have HM1 := Lib.hid hm1; clear hm1
          go_wp2_with fail
          go_round
          case rel => exact ⟨k + 1, h - 1, m, by omega, by omega, by omega, by rw [HM1.out], rfl, by go_num, by rw [Hid, HS1.out]; simp [stp, E.out.2, H0.out], by rw [Hid, HO1.out, if_neg E.out.1]; rfl⟩
          case measure => simp [intOf]; omega
      · have d2 : ((s[k].toNat : Int) == 41) = false := ne_byte e41 (by decide)
        have HN : Hid (r = false) := by
          rw [Hid, ← HR.out]
          have : scan (s.data.toList.take (k + 1)) = none := by rw [HS1.out]; simp [stp, e40, e41]
          simp [treeV, scan_none_take this]
        clear e40 e41
        go_wp2_with fail
        go_ret
        exact ⟨ret_bool HN.out.symm, HB.out⟩
    · have hks : k = s.size := by omega
      have hsa : scan s.data.toList = some h := by have := hS.out; rwa [hks, take_allB] at this
      have hsl := scan_len _ _ _ hsa
      have hop : m = opens s.data.toList := by have := hO.out; rwa [hks, take_allB] at this
      rw [← hop] at hsl
      have hsz : s.size + h = 2 * m := by simpa using hsl
      have HSA := Lib.hid hsa
      clear hks hsa hsl hop
      go_wp2_with fail
      go_loop [6] (fun iv => ∃ i : Nat, i ≤ n ∧ iv = .int .i64 i ∧ Hid (stepsB xs i = true)) (fun iv => n - (intOf iv).toNat)
      case atStart => exact ⟨0, Nat.zero_le _, rfl, rfl⟩
      case round =>
        obtain ⟨i, hi, rfl, hT⟩ := hrel
        by_cases hlt2 : i < n
        · obtain ⟨ad, rfl, hcell⟩ := (H.out.below HB.out).at_ hlt2
          have hsb := stepsB_succ (xs := xs) (k := i) (by rw [Hx.out]; exact hlt2)
          obtain ⟨x, hxx⟩ : ∃ x, gi xs i = x := ⟨_, rfl⟩
          rw [hxx] at hcell hsb
          obtain ⟨b, hbb⟩ : ∃ b, (decide (-1 ≤ x) && decide (x ≤ 1)) = b := ⟨_, rfl⟩
          have HX := Lib.hid hxx; have HBB := Lib.hid hbb; have HSB := Lib.hid hsb
          clear hxx hbb hsb
          cases b with
          | true =>
            go_wp2_with (go_at_call 41; refine (in_any _ x (-1) 1).mono ?_; rintro e w' ⟨rfl, rfl⟩; rw [HBB.out])
            go_round
            case rel => exact ⟨i + 1, by omega, by go_num, by rw [Hid, HSB.out, hT.out, HBB.out]; rfl⟩
            case measure => simp [intOf]; omega
          | false =>
            have HN : Hid (r = false) := by
              rw [Hid, ← HR.out]
              have := stepsB_no (xs := xs) (k := i) (by rw [Hx.out]; exact hlt2) (by rw [HX.out]; exact HBB.out)
              simp [treeV, this]
            go_wp2_with (go_at_call 41; refine (in_any _ x (-1) 1).mono ?_; rintro e w' ⟨rfl, rfl⟩; rw [HBB.out])
            go_ret
            exact ⟨ret_bool HN.out.symm, HB.out⟩
        · have hin : i = n := by omega
          have HST : Hid (stepsB xs xs.length = true) := by rw [Hid, Hx.out, ← hin]; exact hT.out
          clear hin
          by_cases h0 : h = 0
          · have d3 : ((h : Int) == 0) = true := by simp; omega
            obtain ⟨b, hbb⟩ : ∃ b, (decide ((1 : Int) ≤ (m : Int)) && decide ((m : Int) ≤ 3)) = b := ⟨_, rfl⟩
            have HBB := Lib.hid hbb; clear hbb
            have hs2 : s.size = 2 * m := by omega
            have HS2 := Lib.hid hs2; have H0 := Lib.hid h0; clear hs2 h0
            cases b with
            | true =>
              have hb2 := HBB.out
              simp only [Bool.and_eq_true, decide_eq_true_eq] at hb2
              by_cases hnm : n = m
              · have d4 : ((n : Int) == (m : Int)) = true := by simp; omega
                have HN : Hid (r = true) := by
                  rw [Hid, ← HR.out]
                  have := HST.out; have e1 := HSA.out; have e2 := H0.out; have e3 := HS2.out; have e4 := Hx.out
                  simp only [treeV, this, e1, e2, Bool.and_eq_true, decide_eq_true_eq]
                  exact ⟨⟨⟨⟨by omega, by omega⟩, by omega⟩, trivial⟩, trivial⟩
                clear hnm hb2
                go_wp2_with (go_at_call 41; refine (in_any _ m 1 3).mono ?_; rintro e w' ⟨rfl, rfl⟩; rw [HBB.out])
                go_ret
                exact ⟨ret_bool HN.out.symm, HB.out⟩
              · have d4 : ((n : Int) == (m : Int)) = false := by simp; omega
                have HN : Hid (r = false) := by
                  rw [Hid, ← HR.out]
                  have e3 := HS2.out; have e4 := Hx.out
                  have : decide (s.size = 2 * xs.length) = false := decide_eq_false (by omega)
                  simp [treeV, this]
                clear hnm hb2
                go_wp2_with (go_at_call 41; refine (in_any _ m 1 3).mono ?_; rintro e w' ⟨rfl, rfl⟩; rw [HBB.out])
                go_ret
                exact ⟨ret_bool HN.out.symm, HB.out⟩
            | false =>
              have HN : Hid (r = false) := by
                rw [Hid, ← HR.out]
                have hb2 := HBB.out; have e3 := HS2.out; have e4 := Hx.out
                rw [Bool.and_eq_false_iff, decide_eq_false_iff_not, decide_eq_false_iff_not] at hb2
                by_cases e5 : s.size = 2 * xs.length
                · rcases hb2 with hb2 | hb2
                  · have : decide (1 ≤ xs.length) = false := decide_eq_false (by omega)
                    simp [treeV, this]
                  · have : decide (xs.length ≤ 3) = false := decide_eq_false (by omega)
                    simp [treeV, this]
                · have : decide (s.size = 2 * xs.length) = false := decide_eq_false e5
                  simp [treeV, this]
              go_wp2_with (go_at_call 41; refine (in_any _ m 1 3).mono ?_; rintro e w' ⟨rfl, rfl⟩; rw [HBB.out])
              go_ret
              exact ⟨ret_bool HN.out.symm, HB.out⟩
          · have d3 : ((h : Int) == 0) = false := by simp; omega
            have HN : Hid (r = false) := by
              rw [Hid, ← HR.out]
              have e1 := HSA.out
              simp [treeV, e1, h0]
            clear h0
            go_wp2_with fail
            go_ret
            exact ⟨ret_bool HN.out.symm, HB.out⟩

/-- The bytes of a string, laid anew. -/
theorem bytes_laid (w : World) (s : ByteArray) : ∃ cap W1, (convert 9 51 (.string s)).run Try.prog w = .ok (.slice (some ⟨w.heap.size, 0, none⟩) s.size cap) W1 ∧ Below w.heap.size w W1 ∧
    ∀ j, (hj : j < s.size) → W1.cell? ⟨w.heap.size, j, none⟩ = some (.int .u8 (s[j].toNat : Int)) := by
  refine ⟨_, _, run_bytes_of_string w 9 51 5 s Try.underlying9 Try.underlying51 Try.underlying5, ?_, fun j hj => ?_⟩
  · exact (below_drewN (Below.refl _ w) 1).alloc (Nat.le_refl _) _
  · have := World.cell?_alloc_mark w.drew (bytesRow s (grownCap w s.size 0 5)) 5 ((bytesRow s (grownCap w s.size 0 5)).size, (bytesRow s (grownCap w s.size 0 5)).size + 1) j
    rw [bytesRow_at s _ j hj] at this
    exact this

set_option maxHeartbeats 1600000 in
theorem nested_any (b : Nat) (s : ByteArray) (u : Value) (w : World) (hs : s.size ≤ 1048576) (hb : Box w b 27 (.string s) u) {r : Bool} (hR : decide (scan s.data.toList = some 0) = r) :
    Calls Try.prog 61 #[.pointer (some ⟨b, 0, none⟩)] w fun e w' => e = .returned (.bool r) ∧ Below w.heap.size w w' := by
  have c0 := hb.cell0
  obtain ⟨cap, W1, hconv, HB', HC'⟩ := bytes_laid w s
  have HB := Lib.hid HB'; have HC := Lib.hid HC'; have HR := Lib.hid hR
  clear hb HB' HC' hR
  go_enter Try.func61, Try.ntmps61
  go_wp2_with fail
  clear hconv c0
  go_loop [3, 12] (fun uv iv => ∃ (k h : Nat), k ≤ s.size ∧ h ≤ k ∧ uv = .int .i64 h ∧ iv = .int .i64 k ∧ Hid (scan (s.data.toList.take k) = some h)) (fun _ iv => s.size - (intOf iv).toNat)
  case atStart => exact ⟨0, 0, Nat.zero_le _, Nat.le_refl _, rfl, rfl, rfl⟩
  case round =>
    obtain ⟨k, h, hk, hh, rfl, rfl, hS⟩ := hrel
    by_cases hlt : k < s.size
    · have hcell := HC.out k hlt
      have hts := take_snocB s k hlt
      have hs1 := scan_snoc (s.data.toList.take k) s[k]
      rw [← hts, hS.out] at hs1
      have HS1 := Lib.hid hs1
      clear hts hs1
      by_cases e40 : s[k] = 40
      · have d1 : ((s[k].toNat : Int) == 40) = true := by rw [e40]; rfl
        have hpos : 0 ≤ (h : Int) + 1 := by omega
        have E := Lib.hid e40; clear e40
        go_wp2_with fail
        go_round
        case rel => exact ⟨k + 1, h + 1, by omega, by omega, by go_num, by go_num, by rw [Hid, HS1.out]; simp [stp, E.out]⟩
        case measure => simp [intOf]; omega
      have d1 : ((s[k].toNat : Int) == 40) = false := ne_byte e40 (by decide)
      by_cases e41 : s[k] = 41
      · have d2 : ((s[k].toNat : Int) == 41) = true := by rw [e41]; rfl
        have E := Lib.hid (And.intro e40 e41); clear e40 e41
        by_cases h0 : h = 0
        · have HN : Hid (r = false) := by
            rw [Hid, ← HR.out]
            have : scan (s.data.toList.take (k + 1)) = none := by rw [HS1.out, h0]; simp [stp, E.out.2]
            rw [scan_none_take this]; rfl
          have hneg : ((h : Int) - 1 < 0) := by omega
          clear h0
          go_wp2_with fail
          go_ret
          exact ⟨ret_bool HN.out.symm, HB.out⟩
        · have hneg : 0 ≤ (h : Int) - 1 := by omega
          have H0 := Lib.hid h0
          have hm1 : ((h : Int) - 1) = ((h - 1 : Nat) : Int) := by omega
          have HM1 := Lib.hid hm1; clear hm1
          go_wp2_with fail
          go_round
          case rel => exact ⟨k + 1, h - 1, by omega, by omega, by rw [HM1.out], by go_num, by rw [Hid, HS1.out]; simp [stp, E.out.2, H0.out]⟩
          case measure => simp [intOf]; omega
      · have d2 : ((s[k].toNat : Int) == 41) = false := ne_byte e41 (by decide)
        have HN : Hid (r = false) := by
          rw [Hid, ← HR.out]
          have : scan (s.data.toList.take (k + 1)) = none := by rw [HS1.out]; simp [stp, e40, e41]
          rw [scan_none_take this]; rfl
        clear e40 e41
        go_wp2_with fail
        go_ret
        exact ⟨ret_bool HN.out.symm, HB.out⟩
    · have hks : k = s.size := by omega
      have hsa : scan s.data.toList = some h := by have := hS.out; rwa [hks, take_allB] at this
      have HN : Hid (((h : Int) == 0) = r) := by
        rw [Hid, ← HR.out, hsa]
        by_cases h0 : h = 0
        · subst h0; rfl
        · rw [beq_eq_false_iff_ne.2 (by omega : (h : Int) ≠ 0), decide_eq_false (by intro e; injection e with e; exact h0 e)]
      clear hks hsa
      go_wp2_with fail
      go_ret
      exact ⟨ret_bool HN.out, HB.out⟩

set_option maxHeartbeats 1600000 in
theorem treeValid_any (b : Nat) (s : ByteArray) (A : Option Addr) (n c : Nat) (xs : List Int) (w : World) (hs : s.size ≤ 1048576) (hb : Box w b 27 (.string s) (.slice A n c)) (h : Rd w A n xs) (hn : n ≤ 1048576) {r : Bool} (hR : treeV s xs = r) :
    Calls Try.prog 43 #[.pointer (some ⟨b, 0, none⟩)] w fun e w' => e = .returned (.bool r) ∧ Below w.heap.size w w' := by
  have H := Lib.hid h; have Hx := Lib.hid h.1; have HR := Lib.hid hR; clear h hR
  have c0 := hb.cell0
  have c1 := hb.cell1
  have HX := Lib.hid hb; clear hb
  by_cases h1 : 1 ≤ n ∧ n ≤ 3
  · by_cases h2 : s.size = 2 * n
    · have hd : ((s.size : Int) != 2 * (n : Int)) = false := by rw [h2]; simp
      have H2 := Lib.hid h2; clear h2
      go_enter Try.func43, Try.ntmps43
      go_wp2_with fail
      go_loop [32] (fun iv => ∃ i : Nat, i ≤ n ∧ iv = .int .i64 i ∧ Hid (stepsB xs i = true)) (fun iv => n - (intOf iv).toNat)
      case atStart => exact ⟨0, Nat.zero_le _, rfl, rfl⟩
      case round =>
        obtain ⟨i, hi, rfl, hT⟩ := hrel
        by_cases hlt2 : i < n
        · obtain ⟨ad, rfl, hcell⟩ := H.out.at_ hlt2
          have hsb := stepsB_succ (xs := xs) (k := i) (by rw [Hx.out]; exact hlt2)
          obtain ⟨x, hxx⟩ : ∃ x, gi xs i = x := ⟨_, rfl⟩
          rw [hxx] at hcell hsb
          have HX2 := Lib.hid hxx; have HSB := Lib.hid hsb
          clear hxx hsb
          by_cases hx1 : -1 ≤ x ∧ x ≤ 1
          · obtain ⟨hx1, hx2⟩ := hx1
            go_wp2_with fail
            go_round
            case rel => exact ⟨i + 1, by omega, by go_num, by rw [Hid, HSB.out, hT.out, decide_eq_true hx1, decide_eq_true hx2]; rfl⟩
            case measure => simp [intOf]; omega
          · have HN : Hid (r = false) := by
              rw [Hid, ← HR.out]
              have := stepsB_no (xs := xs) (k := i) (by rw [Hx.out]; exact hlt2) (by rw [HX2.out, Bool.and_eq_false_iff, decide_eq_false_iff_not, decide_eq_false_iff_not]; omega)
              simp [treeV, this]
            by_cases hx3 : x < -1
            · go_wp2_with fail
              go_ret
              exact ⟨ret_bool HN.out.symm, Below.refl _ _⟩
            · have hx4 : 1 < x := by omega
              go_wp2_with fail
              go_ret
              exact ⟨ret_bool HN.out.symm, Below.refl _ _⟩
        · have hin : i = n := by omega
          have HST : Hid (stepsB xs xs.length = true) := by rw [Hid, Hx.out, ← hin]; exact hT.out
          have HRR : Hid (decide (scan s.data.toList = some 0) = r) := by
            rw [Hid, ← HR.out]
            have e1 := HST.out; have e2 := H2.out; have e3 := Hx.out
            have q1 : decide (1 ≤ xs.length) = true := decide_eq_true (by omega)
            have q2 : decide (xs.length ≤ 3) = true := decide_eq_true (by omega)
            have q3 : decide (s.size = 2 * xs.length) = true := decide_eq_true (by omega)
            simp only [treeV, e1, q1, q2, q3, Bool.true_and]
          clear hin
          go_wp2_with fail
          refine (nested_any b s (.slice A n c) w hs HX.out HRR.out).mono ?_
          rintro e w1 ⟨rfl, b⟩
          have HB := Lib.hid b; clear b
          go_wp2_with fail
          go_ret
          exact ⟨rfl, HB.out⟩
    · have hd : ((s.size : Int) != 2 * (n : Int)) = true := by rw [bne_iff_ne]; omega
      have HN : Hid (r = false) := by
        rw [Hid, ← HR.out]
        have e3 := Hx.out
        have : decide (s.size = 2 * xs.length) = false := decide_eq_false (by omega)
        simp [treeV, this]
      go_enter Try.func43, Try.ntmps43
      go_wp2_with fail
      go_ret
      exact ⟨ret_bool HN.out.symm, Below.refl _ _⟩
  · have HN : Hid (r = false) := by
      rw [Hid, ← HR.out]
      have e3 := Hx.out
      by_cases h2 : 1 ≤ n
      · have : decide (xs.length ≤ 3) = false := decide_eq_false (by omega)
        simp [treeV, this]
      · have : decide (1 ≤ xs.length) = false := decide_eq_false (by omega)
        simp [treeV, this]
    by_cases h2 : n < 1
    · go_enter Try.func43, Try.ntmps43
      go_wp2_with fail
      go_ret
      exact ⟨ret_bool HN.out.symm, Below.refl _ _⟩
    · have h3 : 3 < n := by omega
      go_enter Try.func43, Try.ntmps43
      go_wp2_with fail
      go_ret
      exact ⟨ret_bool HN.out.symm, Below.refl _ _⟩

set_option maxHeartbeats 800000 in
theorem impl_treeV (w : World) (s : ByteArray) (A : Option Addr) (n c : Nat) (xs : List Int) (hs : s.size ≤ 1048576) (h : Rd w A n xs) (hn : n ≤ 1048576) {r : Bool} (hR : treeV s xs = r) :
    Calls Try.prog 14 #[.agg #[.string s, .slice A n c]] w fun e w' => e = .returned (.bool r) ∧ Below w.heap.size w w' := by
  obtain ⟨W0, hW0, hx, hb, -⟩ := Box.local_ w 27 (.string s) (.slice A n c)
  have HX := Lib.hid hx; have HB := Lib.hid hb; have H := Lib.hid h; have HR := Lib.hid hR; clear hx hb h hR
  go_enter Try.func14, Try.ntmps14
  go_wp2_with fail
  refine (treeValid_any w.heap.size s A n c xs W0 hs HX.out (H.out.below HB.out) hn HR.out).mono ?_
  rintro e w1 ⟨rfl, b⟩
  have HB1 := Lib.hid (HB.out.trans (b.mono HB.out.size)); clear b
  go_wp2_with fail
  go_ret
  exact ⟨rfl, HB1.out⟩

end Go.Proofs.Ythggadkmipicgaa
