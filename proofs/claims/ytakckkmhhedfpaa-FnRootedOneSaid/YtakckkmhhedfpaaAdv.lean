/-
  The next permutation: plain; the model's.
  The next permutation, the program's: a segment turned round in place; advance.
  Plain: all permutations of 2, 4 and 6 points, one after the other: the walk ends.
  Plain: the chain of all permutations, place by place.
-/
import Derived.Test.YtakckkmhhedfpaaLawMap
import Derived.Test.YtakckkmhhedfpaaCopy
import Derived.Test.YtakckkmhhedfpaaSpecPow
namespace Go.Proofs.Ytakckkmhhedfpaa
open Go.RowKit
set_option linter.unusedVariables false

/-- Where the last ascent begins, and one more; 0 if there is none. -/
def atR (p : List Int) : Nat → Nat
  | 0 => 0
  | i + 1 => if gi p (i + 1) < gi p i then atR p i else i + 1
/-- The last place from k down whose number is not less than that at a. -/
def wR (p : List Int) (a : Nat) : Nat → Nat
  | 0 => 0
  | k + 1 => if gi p (k + 1) < gi p a then wR p a k else k + 1
def swapAt (p : List Int) (a k j : Nat) : Int := if j = k then gi p a else gi p j
def nextP (p : List Int) (a k : Nat) : List Int := tab p.length fun j => if j < a then gi p j else if j = a then gi p k else swapAt p a k (p.length - (j - a))
def nextL (p : List Int) : List Int := if atR p (p.length - 1) = 0 then [] else nextP p (atR p (p.length - 1) - 1) (wR p (atR p (p.length - 1) - 1) (p.length - 1))
theorem nextP_len (p : List Int) (a k : Nat) : (nextP p a k).length = p.length := tab_len _ _
theorem atR_le (p : List Int) : ∀ i, atR p i ≤ i
  | 0 => Nat.le_refl _
  | i + 1 => by
    rw [atR]
    split
    · exact Nat.le_succ_of_le (atR_le p i)
    · exact Nat.le_refl _
theorem atR_up (p : List Int) : ∀ i, atR p i ≠ 0 → ¬ gi p (atR p i) < gi p (atR p i - 1)
  | 0, h => absurd rfl h
  | i + 1, h => by
    rw [atR] at h ⊢
    split
    · rename_i h1
      rw [if_pos h1] at h
      exact atR_up p i h
    · rename_i h1
      exact h1
theorem wR_le (p : List Int) (a : Nat) : ∀ k, wR p a k ≤ k
  | 0 => Nat.le_refl _
  | k + 1 => by
    rw [wR]
    split
    · exact Nat.le_succ_of_le (wR_le p a k)
    · exact Nat.le_refl _
theorem wR_ge (p : List Int) (a b : Nat) (hb : 0 < b) (h : ¬ gi p b < gi p a) : ∀ k, b ≤ k → b ≤ wR p a k
  | 0, h1 => by omega
  | k + 1, h1 => by
    rw [wR]
    split
    · rename_i h2
      by_cases e : b = k + 1
      · subst e; exact absurd h2 h
      · exact wR_ge p a b hb h k (by omega)
    · exact h1
theorem take_tab_succ {xs : List Int} {m : Nat} (h : m < xs.length) : xs.take (m + 1) = xs.take m ++ [gi xs m] := by
  rw [List.take_succ_eq_append_getElem h, gi_eq h]
theorem nextP_start {p : List Int} {a k : Nat} (ha : a < p.length) : (nextP p a k).take (a + 1) = p.take a ++ [gi p k] := by
  have hl := nextP_len p a k
  rw [take_tab_succ (by rw [hl]; exact ha)]
  congr 1
  · refine eq_of_gi (by rw [List.length_take, List.length_take, hl]) fun j hj => ?_
    rw [List.length_take] at hj
    have e1 : gi ((nextP p a k).take a) j = gi (nextP p a k) j := by rw [gi_eq (by rw [List.length_take]; omega), gi_eq (by omega), List.getElem_take]
    have e2 : gi (p.take a) j = gi p j := by rw [gi_eq (by rw [List.length_take]; omega), gi_eq (by omega), List.getElem_take]
    rw [e1, e2, nextP, gi_tab (by omega), if_pos (by omega)]
  · rw [nextP, gi_tab ha, if_neg (by omega), if_pos rfl]
theorem nextP_at {p : List Int} {a k j : Nat} (hj : j < p.length) (ha : a < j) : gi (nextP p a k) (a + (p.length - j)) = swapAt p a k j := by
  rw [nextP, gi_tab (by omega), if_neg (by omega), if_neg (by omega)]
  congr 1
  omega

theorem rd_take {w : World} {A : Option Addr} {n m : Nat} {xs : List Int} (h : Rd w A n xs) (hm : m ≤ n) : Rd w A m (xs.take m) := by
  refine ⟨by rw [List.length_take, h.1]; omega, fun h0 => ?_⟩
  obtain ⟨ad, e, hc⟩ := h.2 (by omega)
  refine ⟨ad, e, fun j hj => ?_⟩
  have e1 : gi (xs.take m) j = gi xs j := by
    have := h.1
    rw [gi_eq (by rw [List.length_take]; omega), gi_eq (by omega), List.getElem_take]
  rw [e1]
  exact hc j (by omega)

set_option maxRecDepth 20000 in
set_option maxHeartbeats 3200000 in
theorem l3Next_any (A : Option Addr) (n c : Nat) (p : List Int) (w : World) (h : Rd w A n p) (h1 : 1 ≤ n) (hn : n ≤ 12) (hc : n ≤ c) :
    Calls Try.prog 64 #[.slice A n c] w fun e w' => ∃ v, e = .returned v ∧ Own w' w.heap.size v (nextL p) ∧ Below w.heap.size w w' := by
  obtain ⟨i0, hinf, hz0, hz1, hz2⟩ := info_parts info_int
  obtain ⟨ad, rfl, -⟩ := h.at_ (k := 0) (by omega)
  have H := Lib.hid h; have Hx := Lib.hid h.1; clear h
  go_enter Try.func64, Try.ntmps64
  go_wp2_with fail
  go_loopw [3] (fun iv wz => ∃ (i d : Nat) (z : Int), iv = .int .i64 z ∧ z = (i : Int) - 1 ∧ i ≤ n - 1 ∧ Hid (atR p (n - 1) = atR p i) ∧ wz = w.drewN d) (fun iv _ => ((intOf iv) + 1).toNat)
  case atStart => exact ⟨n - 1, 0, _, rfl, by omega, by omega, rfl, rfl⟩
  case round =>
    obtain ⟨i, d, z, rfl, hz, hi, hat, rfl⟩ := hrel
    by_cases h0 : i = 0
    · obtain rfl : z = -1 := by omega
      have HN : Hid (nextL p = []) := by rw [Hid, nextL, Hx.out, hat.out, h0, atR, if_pos rfl]
      clear hz h0 hi hat
      go_wp2_with fail
      go_quiet (fail)
      go_wp2_with fail
      go_ret
      exact ⟨_, rfl, by rw [HN.out]; exact (Own.empty (w := w.drewN _) (Nat.le_refl _)), (below_drewN (Below.refl _ _) _).alloc (Nat.le_refl _) _⟩
    · obtain ⟨a, rfl⟩ : ∃ a, i = a + 1 := ⟨i - 1, by omega⟩
      obtain rfl : z = (a : Int) := by omega
      clear hz h0
      obtain ⟨ad', e, q1⟩ := H.out.at_ (show a < n by omega)
      simp only [Option.some.injEq] at e
      subst e
      obtain ⟨ad', e, q2⟩ := H.out.at_ (show a + 1 < n by omega)
      simp only [Option.some.injEq] at e
      subst e
      have z1 : (a : Int) < (n : Int) := by omega
      obtain ⟨b, hb⟩ : ∃ b, a + 1 = b := ⟨_, rfl⟩
      rw [hb] at q2
      have z2 : (b : Int) < (n : Int) := by omega
      have hw1 : IntKind.i64.wrap ((a : Int) + 1) = (b : Int) := by rw [IntWalk.i64_in _ (by omega)]; omega
      have HBB := Lib.hid hb
      by_cases hd : gi p b < gi p a
      · have HA : Hid (atR p (n - 1) = atR p a) := by rw [Hid, hat.out, atR, hb, if_pos hd]
        obtain ⟨x, hx⟩ : ∃ x, gi p a = x := ⟨_, rfl⟩
        obtain ⟨y, hy⟩ : ∃ y, gi p b = y := ⟨_, rfl⟩
        rw [hx] at q1 hd; rw [hy] at q2 hd
        have hdd : decide (y < x) = true := by simpa using hd
        clear hx hy hat hb
        go_wp2_with fail
        go_quiet (fail)
        go_wp2_with fail
        go_roundw
        case rel => exact ⟨a, _, _, rfl, by omega, by omega, HA, rfl⟩
        case measure => simp [intOf] <;> omega
      · have HA : Hid (atR p (n - 1) = a + 1) := by rw [Hid, hat.out, atR, hb, if_neg hd]
        have HUP := Lib.hid hd
        obtain ⟨x, hx⟩ : ∃ x, gi p a = x := ⟨_, rfl⟩
        obtain ⟨y, hy⟩ : ∃ y, gi p b = y := ⟨_, rfl⟩
        rw [hx] at q1 hd; rw [hy] at q2 hd
        have hdd : decide (y < x) = false := by simpa using hd
        have HX := Lib.hid hx
        clear hx hy hat hd hb
        go_wp2_with fail
        go_quiet (fail)
        go_wp2_with fail
        clear q2
        go_loopw [4] (fun kv wz => ∃ (k d : Nat) (z : Int), kv = .int .i64 z ∧ z = (k : Int) ∧ a + 1 ≤ k ∧ k ≤ n - 1 ∧ Hid (wR p a (n - 1) = wR p a k) ∧ wz = w.drewN d) (fun kv _ => (intOf kv).toNat)
        case atStart => exact ⟨n - 1, _, _, rfl, by omega, by omega, by omega, rfl, rfl⟩
        case round =>
          obtain ⟨k, d2, z, rfl, hz, hk1, hk2, hwk, rfl⟩ := hrel
          obtain ⟨k', hk'⟩ : ∃ k', k = k' + 1 := ⟨k - 1, by omega⟩
          obtain rfl : z = (k : Int) := by omega
          clear hz
          obtain ⟨ad', e, q3⟩ := H.out.at_ (show k < n by omega)
          simp only [Option.some.injEq] at e
          subst e
          have z3 : (k : Int) < (n : Int) := by omega
          by_cases hd : gi p k < gi p a
          · have hne : k ≠ a + 1 := fun e => by
              rw [e, HBB.out] at hd
              have := HUP.out
              omega
            have HW : Hid (wR p a (n - 1) = wR p a k') := by rw [Hid, hwk.out, hk', wR, ← hk', if_pos hd]
            obtain ⟨u, hu⟩ : ∃ u, gi p k = u := ⟨_, rfl⟩
            rw [hu] at q3 hd; rw [HX.out] at hd
            have hdd2 : decide (u < x) = true := by simpa using hd
            have HK := Lib.hid hk'
            clear hu hwk hk'
            go_wp2_with fail
            go_quiet (fail)
            go_wp2_with fail
            go_roundw
            case rel => exact ⟨k', _, _, rfl, by have := HK.out; omega, by have := HK.out; omega, by have := HK.out; omega, HW, rfl⟩
            case measure => simp [intOf] <;> omega
          · have HW : Hid (wR p a (n - 1) = k) := by rw [Hid, hwk.out, hk', wR, ← hk', if_neg hd]
            obtain ⟨u, hu⟩ : ∃ u, gi p k = u := ⟨_, rfl⟩
            rw [hu] at q3 hd; rw [HX.out] at hd
            have hdd2 : decide (u < x) = false := by simpa using hd
            have HU := Lib.hid hu; have HK := Lib.hid hk'
            clear hu hwk hd hk'
            go_wp2_with fail
            go_quiet (fail)
            have hbd : ∀ d, Below w.heap.size w ((w.drewN d).alloc (.cells #[] 3)) := fun d => (below_drewN (Below.refl _ _) d).alloc (Nat.le_refl _) _
            have HBD := Lib.hid hbd
            have HE : Hid (∀ d, Own ((w.drewN d).alloc (.cells #[] 3)) w.heap.size (.slice (some ⟨w.heap.size, 0, none⟩) 0 0) []) := fun d => Own.empty (w := w.drewN d) (Nat.le_refl _)
            have HLN : Hid ((ints (p.take a)).length = a * 1) := by rw [Hid, ints_len, List.length_take, Hx.out]; omega
            have HNW : Hid (∀ d, ∀ j u, (ints (p.take a))[j]? = some u → ((w.drewN d).alloc (.cells #[] 3)).cell? (ad.add j) = some u) := fun d => (rd_take (H.out.below (hbd d)) (by omega)).news
            have hac : a ≤ c := by omega
            have hac2 : (a : Int) ≤ (c : Int) := by omega
            clear hbd
            go_wp2_with (first
              | (at_builtin; refine wpList_append_own _ rfl (.tmp 43) (.tmp 46) 33 rfl w.heap.size 3 i0 (.int .i64 0) 1 8 Try.underlying33 hinf hz0 hz1 hz2 rfl (by decide) _ 0 [] rfl (HE.out _) ad a c (ints (p.take a)) rfl HLN.out (HNW.out _) ints_one (by unfold maxLen; omega) (by omega) (by simp) ?_; intro v1 w1 hown1 hgrow1 _; have HO1 := Lib.hid hown1; have HB1 := Lib.hid ((HBD.out _).grown hgrow1 (by simp) (fun q hq => ((HE.out 0).lt q hq).1)); clear hown1 hgrow1; have hq3 := (H.out.below HB1.out).at_ (show k < n by omega); obtain ⟨ad', e, q4⟩ := hq3; simp only [Option.some.injEq] at e; subst e; rw [HU.out] at q4; have hs1 := HB1.out.size)
              | (at_builtin; refine wpList_append_own _ rfl (.tmp 48) (.tmp 53) 33 rfl w.heap.size 3 i0 (.int .i64 0) 1 8 Try.underlying33 hinf hz0 hz1 hz2 rfl (by decide) _ _ _ rfl (HO1.out.alloc _) ⟨w1.heap.size, 0, none⟩ 1 1 [.int .i64 u] rfl rfl (cell_one_new _ _ _) (by intro u hu; simp at hu; subst hu; rfl) (by unfold maxLen; omega) (by omega) (by simp; omega) ?_; intro v2 w2 hown2 hgrow2 _; have HO2 := Lib.hid hown2; have HG2 := Lib.hid hgrow2; clear hown2 hgrow2))
            have HNL : Hid (nextL p = nextP p a k) := by rw [Hid, nextL, Hx.out, HA.out, if_neg (by omega), Nat.add_sub_cancel, HW.out]
            have HOS : Hid (Own w2 w.heap.size v2 ((nextP p a k).take (a + 1))) := by
              rw [Hid, nextP_start (by rw [Hx.out]; omega), HU.out]
              have := HO2.out
              unfold Own
              rw [show ints (p.take a ++ [u]) = ints (p.take a) ++ [.int .i64 u] from by simp [ints], show (p.take a ++ [u]).length = a + 1 from by rw [List.length_append, List.length_take, Hx.out, Nat.min_eq_left (by omega)]; rfl]
              simpa using this
            have HBS : Hid (Below w.heap.size w w2) := (HB1.out.alloc hs1 _).grown HG2.out (by simp; omega) (fun q hq => (HO1.out.lt q hq).1)
            clear HO1 HO2 HG2 q4 q1
            go_loopw [5, 6] (fun v' jv wz => ∃ (v : Value) (j : Nat) (z : Int), v = v' ∧ jv = .int .i64 z ∧ z = (j : Int) ∧ a ≤ j ∧ j ≤ n - 1 ∧ Hid (Own wz w.heap.size v ((nextP p a k).take (a + 1 + (n - 1 - j)))) ∧ Hid (Below w.heap.size w wz)) (fun _ jv _ => (intOf jv).toNat)
            case atStart => exact ⟨_, n - 1, _, rfl, rfl, by omega, by omega, by omega, by simpa using HOS, HBS⟩
            case round =>
              clear HOS HBS HB1 hs1
              obtain ⟨v, j, z, rfl, rfl, hz, hj1, hj2, hos, hb5⟩ := hrel
              obtain rfl : z = (j : Int) := by omega
              clear hz
              have hs5 := hb5.out.size
              by_cases haj : a < j
              · have hm0 : a + 1 + (n - 1 - j) = a + (n - j) := by omega
                rw [hm0] at hos
                obtain ⟨ad', e, q5⟩ := (H.out.below hb5.out).at_ (show j < n by omega)
                simp only [Option.some.injEq] at e
                subst e
                obtain ⟨ad', e, q6⟩ := (H.out.below hb5.out).at_ (show a < n by omega)
                simp only [Option.some.injEq] at e
                subst e
                have HOV : Hid (wr.ownsRow w.heap.size 3 1 v (a + (n - j)) (ints ((nextP p a k).take (a + (n - j))))) := by
                  have := hos.out
                  unfold Own at this
                  rw [show ((nextP p a k).take (a + (n - j))).length = a + (n - j) from by rw [List.length_take, nextP_len, Hx.out, Nat.min_eq_left (by omega)]] at this
                  exact this
                have z5 : (j : Int) < (n : Int) := by omega
                have hdj : decide ((a : Int) < (j : Int)) = true := by simp; omega
                clear hos hm0
                by_cases hjk : j = k
                · have hjd : ((j : Int) == (k : Int)) = true := by simp [hjk]
                  rw [HX.out] at q6
                  have HJK := Lib.hid hjk; clear hjk
                  go_wp2_with (at_builtin; refine wpList_append_own _ rfl (.tmp 66) (.tmp 71) 33 rfl w.heap.size 3 i0 (.int .i64 0) 1 8 Try.underlying33 hinf hz0 hz1 hz2 rfl (by decide) _ _ _ rfl (HOV.out.alloc _) ⟨wr.heap.size, 0, none⟩ 1 1 [.int .i64 x] rfl rfl (cell_one_new _ _ _) (by intro u hu; simp at hu; subst hu; rfl) (by unfold maxLen; omega) (by omega) (by simp; omega) ?_; intro v5 w5 hown5 hgrow5 _; have HO5 := Lib.hid hown5; have HG5 := Lib.hid hgrow5; clear hown5 hgrow5)
                  go_roundw
                  case rel =>
                    have hsz := HG5.out.size
                    rw [World.size_alloc] at hsz
                    refine ⟨_, j - 1, _, rfl, rfl, by omega, by omega, by omega, ?_, (hb5.out.alloc hs5 _).grown HG5.out (by simp; omega) (fun q hq => (HOV.out.lt q hq).1)⟩
                    have hm1 : a + 1 + (n - 1 - (j - 1)) = (a + (n - j)) + 1 := by omega
                    have e1 : (nextP p a k).take (a + 1 + (n - 1 - (j - 1))) = (nextP p a k).take (a + (n - j)) ++ [x] := by
                      rw [hm1, take_tab_succ (by rw [nextP_len, Hx.out]; omega), ← Hx.out, nextP_at (by rw [Hx.out]; omega) haj, swapAt, if_pos HJK.out, HX.out]
                    rw [e1]
                    have := HO5.out
                    unfold Hid Own
                    rw [show ints ((nextP p a k).take (a + (n - j)) ++ [x]) = ints ((nextP p a k).take (a + (n - j))) ++ [.int .i64 x] from by simp [ints], show ((nextP p a k).take (a + (n - j)) ++ [x]).length = (a + (n - j)) + 1 from by rw [List.length_append, List.length_take, nextP_len, Hx.out, Nat.min_eq_left (by omega)]; rfl]
                    exact this
                  case measure => simp [intOf] <;> omega
                · have hjd : ((j : Int) == (k : Int)) = false := by simp; omega
                  obtain ⟨y5, hy5⟩ : ∃ y, gi p j = y := ⟨_, rfl⟩
                  rw [hy5] at q5
                  have HY5 := Lib.hid hy5; have HJK := Lib.hid hjk; clear hy5 hjk
                  go_wp2_with (at_builtin; refine wpList_append_own _ rfl (.tmp 73) (.tmp 78) 33 rfl w.heap.size 3 i0 (.int .i64 0) 1 8 Try.underlying33 hinf hz0 hz1 hz2 rfl (by decide) _ _ _ rfl (HOV.out.alloc _) ⟨wr.heap.size, 0, none⟩ 1 1 [.int .i64 y5] rfl rfl (cell_one_new _ _ _) (by intro u hu; simp at hu; subst hu; rfl) (by unfold maxLen; omega) (by omega) (by simp; omega) ?_; intro v5 w5 hown5 hgrow5 _; have HO5 := Lib.hid hown5; have HG5 := Lib.hid hgrow5; clear hown5 hgrow5)
                  go_roundw
                  case rel =>
                    have hsz := HG5.out.size
                    rw [World.size_alloc] at hsz
                    refine ⟨_, j - 1, _, rfl, rfl, by omega, by omega, by omega, ?_, (hb5.out.alloc hs5 _).grown HG5.out (by simp; omega) (fun q hq => (HOV.out.lt q hq).1)⟩
                    have hm1 : a + 1 + (n - 1 - (j - 1)) = (a + (n - j)) + 1 := by omega
                    have e1 : (nextP p a k).take (a + 1 + (n - 1 - (j - 1))) = (nextP p a k).take (a + (n - j)) ++ [y5] := by
                      rw [hm1, take_tab_succ (by rw [nextP_len, Hx.out]; omega), ← Hx.out, nextP_at (by rw [Hx.out]; omega) haj, swapAt, if_neg HJK.out, HY5.out]
                    rw [e1]
                    have := HO5.out
                    unfold Hid Own
                    rw [show ints ((nextP p a k).take (a + (n - j)) ++ [y5]) = ints ((nextP p a k).take (a + (n - j))) ++ [.int .i64 y5] from by simp [ints], show ((nextP p a k).take (a + (n - j)) ++ [y5]).length = (a + (n - j)) + 1 from by rw [List.length_append, List.length_take, nextP_len, Hx.out, Nat.min_eq_left (by omega)]; rfl]
                    exact this
                  case measure => simp [intOf] <;> omega
              · obtain rfl : a = j := by omega
                have HOF : Hid (Own wr w.heap.size v (nextL p)) := by
                  rw [Hid, HNL.out]
                  have := hos.out
                  rw [List.take_of_length_le (by rw [nextP_len, Hx.out]; omega)] at this
                  exact this
                clear hos
                go_wp2_with fail
                go_ret
                exact ⟨_, rfl, HOF.out, hb5.out⟩

end Go.Proofs.Ytakckkmhhedfpaa

namespace Go.Proofs.Ytakckkmhhedfpaa
open Go.RowKit
set_option linter.unusedVariables false

/-- The m numbers from off on, t pairs of them exchanged from outside in. -/
def revSeg (p : List Int) (off m t : Nat) : List Int := tab p.length fun j => if off ≤ j ∧ j < off + m ∧ (j - off < t ∨ m - t ≤ j - off) then gi p (off + (m - 1 - (j - off))) else gi p j
theorem revSeg_len (p : List Int) (off m t : Nat) : (revSeg p off m t).length = p.length := tab_len _ _
theorem revSeg_zero (p : List Int) (off m : Nat) : revSeg p off m 0 = p := by
  refine eq_of_gi (revSeg_len _ _ _ _) fun j hj => ?_
  rw [revSeg_len] at hj
  rw [revSeg, gi_tab hj, if_neg (by omega)]
theorem gi_set_ (xs : List Int) (k j : Nat) (u : Int) (hj : j < xs.length) : gi (xs.set k u) j = if j = k then u else gi xs j := by
  unfold gi
  simp only [List.getD_eq_getElem?_getD, List.getElem?_set]
  by_cases e : k = j
  · subst e; simp [hj]
  · rw [if_neg e, if_neg (fun h => e h.symm)]
theorem revSeg_step {p : List Int} {off m t : Nat} (ht : t < m - 1 - t) (hm : off + m ≤ p.length) :
    ((revSeg p off m t).set (off + t) (gi (revSeg p off m t) (off + (m - 1 - t)))).set (off + (m - 1 - t)) (gi (revSeg p off m t) (off + t)) = revSeg p off m (t + 1) := by
  have e1 : gi (revSeg p off m t) (off + (m - 1 - t)) = gi p (off + (m - 1 - t)) := by rw [revSeg, gi_tab (by omega), if_neg (by omega)]
  have e2 : gi (revSeg p off m t) (off + t) = gi p (off + t) := by rw [revSeg, gi_tab (by omega), if_neg (by omega)]
  refine eq_of_gi (by rw [List.length_set, List.length_set, revSeg_len, revSeg_len]) fun j hj => ?_
  rw [List.length_set, List.length_set, revSeg_len] at hj
  rw [gi_set_ _ _ _ _ (by rw [List.length_set, revSeg_len]; exact hj), gi_set_ _ _ _ _ (by rw [revSeg_len]; exact hj), e1, e2]
  have e3 : gi (revSeg p off m (t + 1)) j = if off ≤ j ∧ j < off + m ∧ (j - off < t + 1 ∨ m - (t + 1) ≤ j - off) then gi p (off + (m - 1 - (j - off))) else gi p j := by rw [revSeg, gi_tab hj]
  have e4 : gi (revSeg p off m t) j = if off ≤ j ∧ j < off + m ∧ (j - off < t ∨ m - t ≤ j - off) then gi p (off + (m - 1 - (j - off))) else gi p j := by rw [revSeg, gi_tab hj]
  rw [e3, e4]
  by_cases h1 : j = off + (m - 1 - t)
  · rw [if_pos h1, if_pos (by omega)]
    congr 1; omega
  · rw [if_neg h1]
    by_cases h2 : j = off + t
    · rw [if_pos h2, if_pos (by omega)]
      congr 1; omega
    · rw [if_neg h2]
      by_cases h3 : off ≤ j ∧ j < off + m ∧ (j - off < t ∨ m - t ≤ j - off)
      · rw [if_pos h3, if_pos (by omega)]
      · rw [if_neg h3, if_neg (by omega)]

theorem grown_drewN_ {w w' : World} {row : Option Nat} (h : w.grownBy w' row) (d : Nat) : w.grownBy (w'.drewN d) row := ⟨h.os, h.tape, h.output, h.size, h.block⟩

set_option maxHeartbeats 1600000 in
theorem reverse_perm (w : World) (lo g n c off m c2 : Nat) (p : List Int) (ho : Own w lo (.slice (some ⟨g, 0, none⟩) n c) p) (hl : p.length = n) (hm : off + m ≤ n) (hn : n ≤ 12) :
    Calls Try.prog 118 #[.slice (some ⟨g, off, none⟩) m c2] w fun e w' => e = .returned (.tuple #[]) ∧ Own w' lo (.slice (some ⟨g, 0, none⟩) n c) (revSeg p off m (m / 2)) ∧ w.grownBy w' (some g) := by
  have HO := Lib.hid ho; have HL := Lib.hid hl; clear ho hl
  go_enter Try.func118, Try.ntmps118
  go_wp2_with fail
  go_loopw [2, 3] (fun iv jv wz => ∃ (t : Nat) (z : Int), iv = .int .i64 t ∧ jv = .int .i64 z ∧ z = (m : Int) - 1 - t ∧ t ≤ m / 2 ∧ Hid (Own wz lo (.slice (some ⟨g, 0, none⟩) n c) (revSeg p off m t)) ∧ Hid (w.grownBy wz (some g))) (fun iv _ _ => m / 2 - (intOf iv).toNat)
  case atStart => exact ⟨0, _, rfl, rfl, by omega, by omega, by rw [Hid, revSeg_zero]; exact HO.out, ⟨rfl, rfl, rfl, Nat.le_refl _, fun _ _ _ => rfl⟩⟩
  case round =>
    obtain ⟨t, z, rfl, rfl, hz, ht, hos, hg⟩ := hrel
    by_cases hlt : t < m / 2
    · obtain ⟨j, hj⟩ : ∃ j : Nat, z = j := ⟨z.toNat, by omega⟩
      subst hj
      have hjm : j = m - 1 - t := by omega
      have htj : t < j := by omega
      clear hz
      have hzl : (revSeg p off m t).length = n := (revSeg_len _ _ _ _).trans HL.out
      obtain ⟨g', e, -, c1, f1⟩ := hos.out.cellAt hzl (k := off + t) (by omega)
      simp only [Option.some.injEq, Addr.mk.injEq, and_true] at e
      subst e
      obtain ⟨g', e, -, c2', f2⟩ := hos.out.cellAt hzl (k := off + j) (by omega)
      simp only [Option.some.injEq, Addr.mk.injEq, and_true] at e
      subst e
      have HST : Hid (((revSeg p off m t).set (off + t) (gi (revSeg p off m t) (off + j))).set (off + j) (gi (revSeg p off m t) (off + t)) = revSeg p off m (t + 1)) := by
        rw [Hid, hjm]; exact revSeg_step (by omega) (by rw [HL.out]; exact hm)
      obtain ⟨x, hx⟩ : ∃ x, gi (revSeg p off m t) (off + t) = x := ⟨_, rfl⟩
      obtain ⟨y, hy⟩ : ∃ y, gi (revSeg p off m t) (off + j) = y := ⟨_, rfl⟩
      rw [hx] at c1; rw [hy] at c2'
      rw [hx, hy] at HST
      have HX := Lib.hid hx; have HY := Lib.hid hy
      have hdt : decide ((t : Int) < (j : Int)) = true := by simp; omega
      have i1 : (t : Int) < (m : Int) := by omega
      have i2 : (j : Int) < (m : Int) := by omega
      have hne : ¬ (off + t = off + j) := by omega
      have HJM := Lib.hid hjm
      clear hx hy hjm
      go_wp2_with fail
      go_big_region
      go_wp2_with fail
      go_roundw
      case rel =>
        have s1 := hos.out.stored hzl (off + t) y
        have s2 := s1.1.stored (by rw [List.length_set]; exact hzl) (off + j) x
        have hjm := HJM.out
        refine ⟨t + 1, _, by go_num, rfl, by omega, by omega, ?_, ?_⟩
        · rw [← HST.out]; exact s2.1
        · exact grown_drewN_ (grownBy_trans hg.out (grownBy_trans s1.2 s2.2)) 1
      case measure => simp [intOf] <;> omega
    · have hte : t = m / 2 := by omega
      have hdt : decide ((t : Int) < z) = false := by simp; omega
      have HTE := Lib.hid hte
      clear hz hlt ht hte
      go_wp2_with fail
      go_end0
      exact ⟨rfl, by rw [← HTE.out]; exact hos.out, hg.out⟩

def exch (p : List Int) (a k : Nat) : List Int := (p.set a (gi p k)).set k (gi p a)
theorem exch_len (p : List Int) (a k : Nat) : (exch p a k).length = p.length := by simp [exch]
theorem gi_exch {p : List Int} {a k j : Nat} (hj : j < p.length) (hak : a ≠ k) : gi (exch p a k) j = if j = k then gi p a else if j = a then gi p k else gi p j := by
  rw [exch, gi_set_ _ _ _ _ (by rw [List.length_set]; exact hj), gi_set_ _ _ _ _ hj]
theorem next_rev {p : List Int} {a k : Nat} (hak : a < k) (hk : k < p.length) : revSeg (exch p a k) (a + 1) (p.length - (a + 1)) ((p.length - (a + 1)) / 2) = nextP p a k := by
  refine eq_of_gi (by rw [revSeg_len, exch_len, nextP_len]) fun j hj => ?_
  rw [revSeg_len, exch_len] at hj
  rw [revSeg, gi_tab (by rw [exch_len]; exact hj), nextP, gi_tab hj]
  by_cases h1 : j < a
  · rw [if_neg (by omega), if_pos h1, gi_exch hj (by omega), if_neg (by omega), if_neg (by omega)]
  · rw [if_neg h1]
    by_cases h2 : j = a
    · rw [if_neg (by omega), if_pos h2, gi_exch hj (by omega), if_neg (by omega), if_pos h2]
    · rw [if_neg h2, swapAt]
      by_cases h3 : a + 1 ≤ j ∧ j < a + 1 + (p.length - (a + 1)) ∧ (j - (a + 1) < (p.length - (a + 1)) / 2 ∨ p.length - (a + 1) - (p.length - (a + 1)) / 2 ≤ j - (a + 1))
      · rw [if_pos h3, gi_exch (by omega) (by omega), show a + 1 + (p.length - (a + 1) - 1 - (j - (a + 1))) = p.length - (j - a) from by omega]
        by_cases h4 : p.length - (j - a) = k
        · rw [if_pos h4, if_pos h4]
        · rw [if_neg h4, if_neg h4, if_neg (by omega)]
      · have h5 : p.length - (j - a) = j := by omega
        rw [if_neg h3, gi_exch hj (by omega), h5]
        by_cases h4 : j = k
        · rw [if_pos h4, if_pos h4]
        · rw [if_neg h4, if_neg h4, if_neg h2]

set_option maxRecDepth 20000 in
set_option maxHeartbeats 3200000 in
theorem advance_any (w : World) (lo g n c : Nat) (p : List Int) (ho : Own w lo (.slice (some ⟨g, 0, none⟩) n c) p) (hl : p.length = n) (h1 : 1 ≤ n) (hn : n ≤ 12) (hc : n ≤ c) :
    Calls Try.prog 97 #[.slice (some ⟨g, 0, none⟩) n c] w fun e w' =>
      e = .returned (.bool (decide (atR p (n - 1) ≠ 0))) ∧ (atR p (n - 1) ≠ 0 → Own w' lo (.slice (some ⟨g, 0, none⟩) n c) (nextL p)) ∧ w.grownBy w' (some g) := by
  have HO := Lib.hid ho; have Hx := Lib.hid hl; clear ho hl
  have hcell : ∀ k, k < n → w.cell? ⟨g, k, none⟩ = some (.int .i64 (gi p k)) ∧ w.frozen? ⟨g, k, none⟩ = false := fun k hk => by
    obtain ⟨g', e, -, c1, f1⟩ := HO.out.cellAt Hx.out hk
    simp only [Option.some.injEq, Addr.mk.injEq, and_true] at e
    subst e
    exact ⟨c1, f1⟩
  have HCELL := Lib.hid hcell; clear hcell
  have HG0 : Hid (∀ d, w.grownBy (w.drewN d) (some g)) := fun d => ⟨rfl, rfl, rfl, Nat.le_refl _, fun _ _ _ => rfl⟩
  go_enter Try.func97, Try.ntmps97
  go_wp2_with fail
  go_loopw [3] (fun iv wz => ∃ (i d : Nat) (z : Int), iv = .int .i64 z ∧ z = (i : Int) - 1 ∧ i ≤ n - 1 ∧ Hid (atR p (n - 1) = atR p i) ∧ wz = w.drewN d) (fun iv _ => ((intOf iv) + 1).toNat)
  case atStart => exact ⟨n - 1, 0, _, rfl, by omega, by omega, rfl, rfl⟩
  case round =>
    obtain ⟨i, d, z, rfl, hz, hi, hat, rfl⟩ := hrel
    by_cases h0 : i = 0
    · obtain rfl : z = -1 := by omega
      have HN : Hid (atR p (n - 1) = 0) := by rw [Hid, hat.out, h0, atR]
      clear hz h0 hi hat
      go_wp2_with fail
      go_quiet (fail)
      go_wp2_with fail
      go_ret
      exact ⟨by rw [HN.out]; rfl, fun h => absurd HN.out h, HG0.out _⟩
    · obtain ⟨a, rfl⟩ : ∃ a, i = a + 1 := ⟨i - 1, by omega⟩
      obtain rfl : z = (a : Int) := by omega
      clear hz h0
      obtain ⟨q1, f1⟩ := HCELL.out a (by omega)
      obtain ⟨b, hb⟩ : ∃ b, a + 1 = b := ⟨_, rfl⟩
      obtain ⟨q2, f2⟩ := HCELL.out b (by omega)
      have z1 : (a : Int) < (n : Int) := by omega
      have z2 : (b : Int) < (n : Int) := by omega
      have hw1 : IntKind.i64.wrap ((a : Int) + 1) = (b : Int) := by rw [IntWalk.i64_in _ (by omega)]; omega
      have HBB := Lib.hid hb
      by_cases hd : gi p b < gi p a
      · have HA : Hid (atR p (n - 1) = atR p a) := by rw [Hid, hat.out, atR, hb, if_pos hd]
        obtain ⟨x, hx⟩ : ∃ x, gi p a = x := ⟨_, rfl⟩
        obtain ⟨y, hy⟩ : ∃ y, gi p b = y := ⟨_, rfl⟩
        rw [hx] at q1 hd; rw [hy] at q2 hd
        have hdd : decide (y < x) = true := by simpa using hd
        clear hx hy hat hb
        go_wp2_with fail
        go_quiet (fail)
        go_wp2_with fail
        go_roundw
        case rel => exact ⟨a, _, _, rfl, by omega, by omega, HA, rfl⟩
        case measure => simp [intOf] <;> omega
      · have HA : Hid (atR p (n - 1) = a + 1) := by rw [Hid, hat.out, atR, hb, if_neg hd]
        have HUP := Lib.hid hd
        obtain ⟨x, hx⟩ : ∃ x, gi p a = x := ⟨_, rfl⟩
        obtain ⟨y, hy⟩ : ∃ y, gi p b = y := ⟨_, rfl⟩
        rw [hx] at q1 hd; rw [hy] at q2 hd
        have hdd : decide (y < x) = false := by simpa using hd
        have HX := Lib.hid hx
        clear hx hy hat hd hb
        go_wp2_with fail
        go_quiet (fail)
        go_wp2_with fail
        clear q2 f2
        go_loopw [4] (fun kv wz => ∃ (k d : Nat) (z : Int), kv = .int .i64 z ∧ z = (k : Int) ∧ a + 1 ≤ k ∧ k ≤ n - 1 ∧ Hid (wR p a (n - 1) = wR p a k) ∧ wz = w.drewN d) (fun kv _ => (intOf kv).toNat)
        case atStart => exact ⟨n - 1, _, _, rfl, by omega, by omega, by omega, rfl, rfl⟩
        case round =>
          obtain ⟨k, d2, z, rfl, hz, hk1, hk2, hwk, rfl⟩ := hrel
          obtain ⟨k', hk'⟩ : ∃ k', k = k' + 1 := ⟨k - 1, by omega⟩
          obtain rfl : z = (k : Int) := by omega
          clear hz
          obtain ⟨q3, f3⟩ := HCELL.out k (by omega)
          have z3 : (k : Int) < (n : Int) := by omega
          by_cases hd : gi p k < gi p a
          · have hne : k ≠ a + 1 := fun e => by
              rw [e, HBB.out] at hd
              have := HUP.out
              omega
            have HW : Hid (wR p a (n - 1) = wR p a k') := by rw [Hid, hwk.out, hk', wR, ← hk', if_pos hd]
            obtain ⟨u, hu⟩ : ∃ u, gi p k = u := ⟨_, rfl⟩
            rw [hu] at q3 hd; rw [HX.out] at hd
            have hdd2 : decide (u < x) = true := by simpa using hd
            have HK := Lib.hid hk'
            clear hu hwk hk'
            go_wp2_with fail
            go_quiet (fail)
            go_wp2_with fail
            go_roundw
            case rel => exact ⟨k', _, _, rfl, by have := HK.out; omega, by have := HK.out; omega, by have := HK.out; omega, HW, rfl⟩
            case measure => simp [intOf] <;> omega
          · have HW : Hid (wR p a (n - 1) = k) := by rw [Hid, hwk.out, hk', wR, ← hk', if_neg hd]
            obtain ⟨u, hu⟩ : ∃ u, gi p k = u := ⟨_, rfl⟩
            rw [hu] at q3 hd; rw [HX.out] at hd
            have hdd2 : decide (u < x) = false := by simpa using hd
            have HU := Lib.hid hu; have HK := Lib.hid hk'
            clear hu hwk hd hk'
            have hne : ¬ (a = k) := by omega
            have hac2 : (a : Int) + 1 ≤ (n : Int) := by omega
            have HNL : Hid (nextL p = nextP p a k) := by rw [Hid, nextL, Hx.out, HA.out, if_neg (by omega), Nat.add_sub_cancel, HW.out]
            have HNR : Hid (revSeg (exch p a k) (a + 1) (n - (a + 1)) ((n - (a + 1)) / 2) = nextP p a k) := by
              rw [Hid, ← Hx.out]; exact next_rev (by omega) (by rw [Hx.out]; omega)
            have HOWN : Hid (∀ D, Own (((w.drewN D).setCell ⟨g, a, none⟩ (.int .i64 u)).setCell ⟨g, k, none⟩ (.int .i64 x)) lo (.slice (some ⟨g, 0, none⟩) n c) (exch p a k) ∧ w.grownBy (((w.drewN D).setCell ⟨g, a, none⟩ (.int .i64 u)).setCell ⟨g, k, none⟩ (.int .i64 x)) (some g)) := fun D => by
              have h0 : Own (w.drewN D) lo (.slice (some ⟨g, 0, none⟩) n c) p := HO.out
              have s1 := h0.stored Hx.out a u
              have s2 := s1.1.stored (by rw [List.length_set]; exact Hx.out) k x
              rw [exch, HU.out, HX.out]
              exact ⟨s2.1, grownBy_trans (HG0.out D) (grownBy_trans s1.2 s2.2)⟩
            go_wp2_with fail
            go_quiet (fail)
            go_wp2_with fail
            go_big_region
            go_wp2_with fail
            refine (reverse_perm _ lo g n c b (n - b) (c - b) (exch p a k) (HOWN.out _).1 ((exch_len _ _ _).trans Hx.out) (by omega) hn).mono ?_
            rintro e w3 ⟨rfl, o3, g3⟩
            have HO3 := Lib.hid o3
            have HG3 := Lib.hid (grownBy_trans (HOWN.out _).2 g3)
            clear o3 g3
            go_wp2_with fail
            go_ret
            exact ⟨by rw [HA.out]; rfl, fun _ => by rw [HNL.out, ← HNR.out, HBB.out]; exact HO3.out, HG3.out⟩

end Go.Proofs.Ytakckkmhhedfpaa

namespace Go.Proofs.Ytakckkmhhedfpaa

def turnsFrom : Nat → List Int → List (List Int)
  | 0, _ => []
  | k + 1, p => p :: if atR p (p.length - 1) = 0 then [] else turnsFrom k (nextL p)
/-- Holds of a list of permutations of n points, each but the last followed by its next one. -/
def chainB (n : Nat) : List (List Int) → Bool
  | [] => false
  | [p] => p.length == n && vld p && atR p (n - 1) == 0
  | p :: q :: r => p.length == n && vld p && (atR p (n - 1) != 0) && nextL p == q && chainB n (q :: r)
def allT (e : Nat) : List (List Int) := turnsFrom 1000 (sameL (2 * e))
theorem chain1 : chainB 2 (allT 1) = true := by decide +kernel
theorem chain2 : chainB 4 (allT 2) = true := by decide +kernel
theorem chain3 : chainB 6 (allT 3) = true := by decide +kernel
theorem lens_turns : (allT 1).length = 2 ∧ (allT 2).length = 24 ∧ (allT 3).length = 720 := by decide +kernel

end Go.Proofs.Ytakckkmhhedfpaa

namespace Go.Proofs.Ytakckkmhhedfpaa

theorem chain_at {n : Nat} : ∀ {l : List (List Int)}, chainB n l = true → ∀ i, i < l.length → Vld (l.getD i []) ∧ (l.getD i []).length = n ∧
    (i + 1 < l.length → atR (l.getD i []) (n - 1) ≠ 0 ∧ nextL (l.getD i []) = l.getD (i + 1) []) ∧ (i + 1 = l.length → atR (l.getD i []) (n - 1) = 0)
  | [], h, _, _ => by simp [chainB] at h
  | [p], h, i, hi => by
    simp only [chainB, Bool.and_eq_true, beq_iff_eq] at h
    obtain ⟨⟨h1, h2⟩, h3⟩ := h
    simp only [List.length_cons, List.length_nil] at hi
    obtain rfl : i = 0 := by omega
    exact ⟨Vld_of h2, h1, fun h => absurd h (by simp), fun _ => h3⟩
  | p :: q :: r, h, i, hi => by
    rw [chainB] at h
    simp only [Bool.and_eq_true, beq_iff_eq, bne_iff_ne, ne_eq] at h
    obtain ⟨⟨⟨⟨h1, h2⟩, h3⟩, h4⟩, h5⟩ := h
    cases i with
    | zero => exact ⟨Vld_of h2, h1, fun _ => ⟨h3, by simpa using h4⟩, fun h => by simp at h⟩
    | succ i =>
      have := chain_at h5 i (by simpa using hi)
      simpa using this
theorem turns_all {e : Nat} (h1 : 1 ≤ e) (h3 : e ≤ 3) : chainB (2 * e) (allT e) = true ∧ 0 < (allT e).length ∧ (allT e).length ≤ 720 := by
  obtain ⟨l1, l2, l3⟩ := lens_turns
  rcases (show e = 1 ∨ e = 2 ∨ e = 3 by omega) with rfl | rfl | rfl
  · exact ⟨chain1, by omega, by omega⟩
  · exact ⟨chain2, by omega, by omega⟩
  · exact ⟨chain3, by omega, by omega⟩
theorem turns_first (e : Nat) : (allT e).getD 0 [] = sameL (2 * e) := rfl

end Go.Proofs.Ytakckkmhhedfpaa
