/-
  The next permutation: plain; the model's.
-/
import Derived.Test.YthcdhkelpepeeaaLawMap
import Derived.Test.YthcdhkelpepeeaaCopy
namespace Go.Proofs.Ythcdhkelpepeeaa
open Go.RowKit
set_option linter.unusedVariables false

/-- Where the last ascent begins, and one more; 0 if there is none. -/
def atR (p : List Int) : Nat → Nat
  | 0 => 0
  | i + 1 => if gi p (i + 1) < gi p i then atR p i else i + 1
/-- The last place from k down whose number is not less than that at a. -/
def wR (p : List Int) (a : Nat) : Nat → Nat
  | 0 => 0
  | k + 1 => if gi p (k + 1) < gi p a then wR p a k else k + 1
def swapAt (p : List Int) (a k j : Nat) : Int := if j = k then gi p a else gi p j
def nextP (p : List Int) (a k : Nat) : List Int := tab p.length fun j => if j < a then gi p j else if j = a then gi p k else swapAt p a k (p.length - (j - a))
def nextL (p : List Int) : List Int := if atR p (p.length - 1) = 0 then [] else nextP p (atR p (p.length - 1) - 1) (wR p (atR p (p.length - 1) - 1) (p.length - 1))
theorem nextP_len (p : List Int) (a k : Nat) : (nextP p a k).length = p.length := tab_len _ _
theorem atR_le (p : List Int) : ∀ i, atR p i ≤ i
  | 0 => Nat.le_refl _
  | i + 1 => by
    rw [atR]
    split
    · exact Nat.le_succ_of_le (atR_le p i)
    · exact Nat.le_refl _
theorem atR_up (p : List Int) : ∀ i, atR p i ≠ 0 → ¬ gi p (atR p i) < gi p (atR p i - 1)
  | 0, h => absurd rfl h
  | i + 1, h => by
    rw [atR] at h ⊢
    split
    · rename_i h1
      rw [if_pos h1] at h
      exact atR_up p i h
    · rename_i h1
      exact h1
theorem wR_le (p : List Int) (a : Nat) : ∀ k, wR p a k ≤ k
  | 0 => Nat.le_refl _
  | k + 1 => by
    rw [wR]
    split
    · exact Nat.le_succ_of_le (wR_le p a k)
    · exact Nat.le_refl _
theorem wR_ge (p : List Int) (a b : Nat) (hb : 0 < b) (h : ¬ gi p b < gi p a) : ∀ k, b ≤ k → b ≤ wR p a k
  | 0, h1 => by omega
  | k + 1, h1 => by
    rw [wR]
    split
    · rename_i h2
      by_cases e : b = k + 1
      · subst e; exact absurd h2 h
      · exact wR_ge p a b hb h k (by omega)
    · exact h1
theorem take_tab_succ {xs : List Int} {m : Nat} (h : m < xs.length) : xs.take (m + 1) = xs.take m ++ [gi xs m] := by
  rw [List.take_succ_eq_append_getElem h, gi_eq h]
theorem nextP_start {p : List Int} {a k : Nat} (ha : a < p.length) : (nextP p a k).take (a + 1) = p.take a ++ [gi p k] := by
  have hl := nextP_len p a k
  rw [take_tab_succ (by rw [hl]; exact ha)]
  congr 1
  · refine eq_of_gi (by rw [List.length_take, List.length_take, hl]) fun j hj => ?_
    rw [List.length_take] at hj
    have e1 : gi ((nextP p a k).take a) j = gi (nextP p a k) j := by rw [gi_eq (by rw [List.length_take]; omega), gi_eq (by omega), List.getElem_take]
    have e2 : gi (p.take a) j = gi p j := by rw [gi_eq (by rw [List.length_take]; omega), gi_eq (by omega), List.getElem_take]
    rw [e1, e2, nextP, gi_tab (by omega), if_pos (by omega)]
  · rw [nextP, gi_tab ha, if_neg (by omega), if_pos rfl]
theorem nextP_at {p : List Int} {a k j : Nat} (hj : j < p.length) (ha : a < j) : gi (nextP p a k) (a + (p.length - j)) = swapAt p a k j := by
  rw [nextP, gi_tab (by omega), if_neg (by omega), if_neg (by omega)]
  congr 1
  omega

theorem rd_take {w : World} {A : Option Addr} {n m : Nat} {xs : List Int} (h : Rd w A n xs) (hm : m ≤ n) : Rd w A m (xs.take m) := by
  refine ⟨by rw [List.length_take, h.1]; omega, fun h0 => ?_⟩
  obtain ⟨ad, e, hc⟩ := h.2 (by omega)
  refine ⟨ad, e, fun j hj => ?_⟩
  have e1 : gi (xs.take m) j = gi xs j := by
    have := h.1
    rw [gi_eq (by rw [List.length_take]; omega), gi_eq (by omega), List.getElem_take]
  rw [e1]
  exact hc j (by omega)

set_option maxRecDepth 20000 in
set_option maxHeartbeats 3200000 in
theorem l3Next_any (A : Option Addr) (n c : Nat) (p : List Int) (w : World) (h : Rd w A n p) (h1 : 1 ≤ n) (hn : n ≤ 12) (hc : n ≤ c) :
    Calls Try.prog 81 #[.slice A n c] w fun e w' => ∃ v, e = .returned v ∧ Own w' w.heap.size v (nextL p) ∧ Below w.heap.size w w' := by
  obtain ⟨i0, hinf, hz0, hz1, hz2⟩ := info_parts info_int
  obtain ⟨ad, rfl, -⟩ := h.at_ (k := 0) (by omega)
  have H := Lib.hid h; have Hx := Lib.hid h.1; clear h
  go_enter Try.func81, Try.ntmps81
  go_wp2_with fail
  go_loopw [3] (fun iv wz => ∃ (i d : Nat) (z : Int), iv = .int .i64 z ∧ z = (i : Int) - 1 ∧ i ≤ n - 1 ∧ Hid (atR p (n - 1) = atR p i) ∧ wz = w.drewN d) (fun iv _ => ((intOf iv) + 1).toNat)
  case atStart => exact ⟨n - 1, 0, _, rfl, by omega, by omega, rfl, rfl⟩
  case round =>
    obtain ⟨i, d, z, rfl, hz, hi, hat, rfl⟩ := hrel
    by_cases h0 : i = 0
    · obtain rfl : z = -1 := by omega
      have HN : Hid (nextL p = []) := by rw [Hid, nextL, Hx.out, hat.out, h0, atR, if_pos rfl]
      clear hz h0 hi hat
      go_wp2_with fail
      go_quiet (fail)
      go_wp2_with fail
      go_ret
      exact ⟨_, rfl, by rw [HN.out]; exact (Own.empty (w := w.drewN _) (Nat.le_refl _)), (below_drewN (Below.refl _ _) _).alloc (Nat.le_refl _) _⟩
    · obtain ⟨a, rfl⟩ : ∃ a, i = a + 1 := ⟨i - 1, by omega⟩
      obtain rfl : z = (a : Int) := by omega
      clear hz h0
      obtain ⟨ad', e, q1⟩ := H.out.at_ (show a < n by omega)
      simp only [Option.some.injEq] at e
      subst e
      obtain ⟨ad', e, q2⟩ := H.out.at_ (show a + 1 < n by omega)
      simp only [Option.some.injEq] at e
      subst e
      have z1 : (a : Int) < (n : Int) := by omega
      obtain ⟨b, hb⟩ : ∃ b, a + 1 = b := ⟨_, rfl⟩
      rw [hb] at q2
      have z2 : (b : Int) < (n : Int) := by omega
      have hw1 : IntKind.i64.wrap ((a : Int) + 1) = (b : Int) := by rw [IntWalk.i64_in _ (by omega)]; omega
      have HBB := Lib.hid hb
      by_cases hd : gi p b < gi p a
      · have HA : Hid (atR p (n - 1) = atR p a) := by rw [Hid, hat.out, atR, hb, if_pos hd]
        obtain ⟨x, hx⟩ : ∃ x, gi p a = x := ⟨_, rfl⟩
        obtain ⟨y, hy⟩ : ∃ y, gi p b = y := ⟨_, rfl⟩
        rw [hx] at q1 hd; rw [hy] at q2 hd
        have hdd : decide (y < x) = true := by simpa using hd
        clear hx hy hat hb
        go_wp2_with fail
        go_quiet (fail)
        go_wp2_with fail
        go_roundw
        case rel => exact ⟨a, _, _, rfl, by omega, by omega, HA, rfl⟩
        case measure => simp [intOf] <;> omega
      · have HA : Hid (atR p (n - 1) = a + 1) := by rw [Hid, hat.out, atR, hb, if_neg hd]
        have HUP := Lib.hid hd
        obtain ⟨x, hx⟩ : ∃ x, gi p a = x := ⟨_, rfl⟩
        obtain ⟨y, hy⟩ : ∃ y, gi p b = y := ⟨_, rfl⟩
        rw [hx] at q1 hd; rw [hy] at q2 hd
        have hdd : decide (y < x) = false := by simpa using hd
        have HX := Lib.hid hx
        clear hx hy hat hd hb
        go_wp2_with fail
        go_quiet (fail)
        go_wp2_with fail
        clear q2
        go_loopw [4] (fun kv wz => ∃ (k d : Nat) (z : Int), kv = .int .i64 z ∧ z = (k : Int) ∧ a + 1 ≤ k ∧ k ≤ n - 1 ∧ Hid (wR p a (n - 1) = wR p a k) ∧ wz = w.drewN d) (fun kv _ => (intOf kv).toNat)
        case atStart => exact ⟨n - 1, _, _, rfl, by omega, by omega, by omega, rfl, rfl⟩
        case round =>
          obtain ⟨k, d2, z, rfl, hz, hk1, hk2, hwk, rfl⟩ := hrel
          obtain ⟨k', hk'⟩ : ∃ k', k = k' + 1 := ⟨k - 1, by omega⟩
          obtain rfl : z = (k : Int) := by omega
          clear hz
          obtain ⟨ad', e, q3⟩ := H.out.at_ (show k < n by omega)
          simp only [Option.some.injEq] at e
          subst e
          have z3 : (k : Int) < (n : Int) := by omega
          by_cases hd : gi p k < gi p a
          · have hne : k ≠ a + 1 := fun e => by
              rw [e, HBB.out] at hd
              have := HUP.out
              omega
            have HW : Hid (wR p a (n - 1) = wR p a k') := by rw [Hid, hwk.out, hk', wR, ← hk', if_pos hd]
            obtain ⟨u, hu⟩ : ∃ u, gi p k = u := ⟨_, rfl⟩
            rw [hu] at q3 hd; rw [HX.out] at hd
            have hdd2 : decide (u < x) = true := by simpa using hd
            have HK := Lib.hid hk'
            clear hu hwk hk'
            go_wp2_with fail
            go_quiet (fail)
            go_wp2_with fail
            go_roundw
            case rel => exact ⟨k', _, _, rfl, by have := HK.out; omega, by have := HK.out; omega, by have := HK.out; omega, HW, rfl⟩
            case measure => simp [intOf] <;> omega
          · have HW : Hid (wR p a (n - 1) = k) := by rw [Hid, hwk.out, hk', wR, ← hk', if_neg hd]
            obtain ⟨u, hu⟩ : ∃ u, gi p k = u := ⟨_, rfl⟩
            rw [hu] at q3 hd; rw [HX.out] at hd
            have hdd2 : decide (u < x) = false := by simpa using hd
            have HU := Lib.hid hu; have HK := Lib.hid hk'
            clear hu hwk hd hk'
            go_wp2_with fail
            go_quiet (fail)
            have hbd : ∀ d, Below w.heap.size w ((w.drewN d).alloc (.cells #[] 3)) := fun d => (below_drewN (Below.refl _ _) d).alloc (Nat.le_refl _) _
            have HBD := Lib.hid hbd
            have HE : Hid (∀ d, Own ((w.drewN d).alloc (.cells #[] 3)) w.heap.size (.slice (some ⟨w.heap.size, 0, none⟩) 0 0) []) := fun d => Own.empty (w := w.drewN d) (Nat.le_refl _)
            have HLN : Hid ((ints (p.take a)).length = a * 1) := by rw [Hid, ints_len, List.length_take, Hx.out]; omega
            have HNW : Hid (∀ d, ∀ j u, (ints (p.take a))[j]? = some u → ((w.drewN d).alloc (.cells #[] 3)).cell? (ad.add j) = some u) := fun d => (rd_take (H.out.below (hbd d)) (by omega)).news
            have hac : a ≤ c := by omega
            have hac2 : (a : Int) ≤ (c : Int) := by omega
            clear hbd
            go_wp2_with (first
              | (at_builtin; refine wpList_append_own _ rfl (.tmp 43) (.tmp 46) 22 rfl w.heap.size 3 i0 (.int .i64 0) 1 8 Try.underlying22 hinf hz0 hz1 hz2 rfl (by decide) _ 0 [] rfl (HE.out _) ad a c (ints (p.take a)) rfl HLN.out (HNW.out _) ints_one (by unfold maxLen; omega) (by omega) (by simp) ?_; intro v1 w1 hown1 hgrow1 _; have HO1 := Lib.hid hown1; have HB1 := Lib.hid ((HBD.out _).grown hgrow1 (by simp) (fun q hq => ((HE.out 0).lt q hq).1)); clear hown1 hgrow1; have hq3 := (H.out.below HB1.out).at_ (show k < n by omega); obtain ⟨ad', e, q4⟩ := hq3; simp only [Option.some.injEq] at e; subst e; rw [HU.out] at q4; have hs1 := HB1.out.size)
              | (at_builtin; refine wpList_append_own _ rfl (.tmp 48) (.tmp 53) 22 rfl w.heap.size 3 i0 (.int .i64 0) 1 8 Try.underlying22 hinf hz0 hz1 hz2 rfl (by decide) _ _ _ rfl (HO1.out.alloc _) ⟨w1.heap.size, 0, none⟩ 1 1 [.int .i64 u] rfl rfl (cell_one_new _ _ _) (by intro u hu; simp at hu; subst hu; rfl) (by unfold maxLen; omega) (by omega) (by simp; omega) ?_; intro v2 w2 hown2 hgrow2 _; have HO2 := Lib.hid hown2; have HG2 := Lib.hid hgrow2; clear hown2 hgrow2))
            have HNL : Hid (nextL p = nextP p a k) := by rw [Hid, nextL, Hx.out, HA.out, if_neg (by omega), Nat.add_sub_cancel, HW.out]
            have HOS : Hid (Own w2 w.heap.size v2 ((nextP p a k).take (a + 1))) := by
              rw [Hid, nextP_start (by rw [Hx.out]; omega), HU.out]
              have := HO2.out
              unfold Own
              rw [show ints (p.take a ++ [u]) = ints (p.take a) ++ [.int .i64 u] from by simp [ints], show (p.take a ++ [u]).length = a + 1 from by rw [List.length_append, List.length_take, Hx.out, Nat.min_eq_left (by omega)]; rfl]
              simpa using this
            have HBS : Hid (Below w.heap.size w w2) := (HB1.out.alloc hs1 _).grown HG2.out (by simp; omega) (fun q hq => (HO1.out.lt q hq).1)
            clear HO1 HO2 HG2 q4 q1
            go_loopw [5, 6] (fun v' jv wz => ∃ (v : Value) (j : Nat) (z : Int), v = v' ∧ jv = .int .i64 z ∧ z = (j : Int) ∧ a ≤ j ∧ j ≤ n - 1 ∧ Hid (Own wz w.heap.size v ((nextP p a k).take (a + 1 + (n - 1 - j)))) ∧ Hid (Below w.heap.size w wz)) (fun _ jv _ => (intOf jv).toNat)
            case atStart => exact ⟨_, n - 1, _, rfl, rfl, by omega, by omega, by omega, by simpa using HOS, HBS⟩
            case round =>
              clear HOS HBS HB1 hs1
              obtain ⟨v, j, z, rfl, rfl, hz, hj1, hj2, hos, hb5⟩ := hrel
              obtain rfl : z = (j : Int) := by omega
              clear hz
              have hs5 := hb5.out.size
              by_cases haj : a < j
              · have hm0 : a + 1 + (n - 1 - j) = a + (n - j) := by omega
                rw [hm0] at hos
                obtain ⟨ad', e, q5⟩ := (H.out.below hb5.out).at_ (show j < n by omega)
                simp only [Option.some.injEq] at e
                subst e
                obtain ⟨ad', e, q6⟩ := (H.out.below hb5.out).at_ (show a < n by omega)
                simp only [Option.some.injEq] at e
                subst e
                have HOV : Hid (wr.ownsRow w.heap.size 3 1 v (a + (n - j)) (ints ((nextP p a k).take (a + (n - j))))) := by
                  have := hos.out
                  unfold Own at this
                  rw [show ((nextP p a k).take (a + (n - j))).length = a + (n - j) from by rw [List.length_take, nextP_len, Hx.out, Nat.min_eq_left (by omega)]] at this
                  exact this
                have z5 : (j : Int) < (n : Int) := by omega
                have hdj : decide ((a : Int) < (j : Int)) = true := by simp; omega
                clear hos hm0
                by_cases hjk : j = k
                · have hjd : ((j : Int) == (k : Int)) = true := by simp [hjk]
                  rw [HX.out] at q6
                  have HJK := Lib.hid hjk; clear hjk
                  go_wp2_with (at_builtin; refine wpList_append_own _ rfl (.tmp 66) (.tmp 71) 22 rfl w.heap.size 3 i0 (.int .i64 0) 1 8 Try.underlying22 hinf hz0 hz1 hz2 rfl (by decide) _ _ _ rfl (HOV.out.alloc _) ⟨wr.heap.size, 0, none⟩ 1 1 [.int .i64 x] rfl rfl (cell_one_new _ _ _) (by intro u hu; simp at hu; subst hu; rfl) (by unfold maxLen; omega) (by omega) (by simp; omega) ?_; intro v5 w5 hown5 hgrow5 _; have HO5 := Lib.hid hown5; have HG5 := Lib.hid hgrow5; clear hown5 hgrow5)
                  go_roundw
                  case rel =>
                    have hsz := HG5.out.size
                    rw [World.size_alloc] at hsz
                    refine ⟨_, j - 1, _, rfl, rfl, by omega, by omega, by omega, ?_, (hb5.out.alloc hs5 _).grown HG5.out (by simp; omega) (fun q hq => (HOV.out.lt q hq).1)⟩
                    have hm1 : a + 1 + (n - 1 - (j - 1)) = (a + (n - j)) + 1 := by omega
                    have e1 : (nextP p a k).take (a + 1 + (n - 1 - (j - 1))) = (nextP p a k).take (a + (n - j)) ++ [x] := by
                      rw [hm1, take_tab_succ (by rw [nextP_len, Hx.out]; omega), ← Hx.out, nextP_at (by rw [Hx.out]; omega) haj, swapAt, if_pos HJK.out, HX.out]
                    rw [e1]
                    have := HO5.out
                    unfold Hid Own
                    rw [show ints ((nextP p a k).take (a + (n - j)) ++ [x]) = ints ((nextP p a k).take (a + (n - j))) ++ [.int .i64 x] from by simp [ints], show ((nextP p a k).take (a + (n - j)) ++ [x]).length = (a + (n - j)) + 1 from by rw [List.length_append, List.length_take, nextP_len, Hx.out, Nat.min_eq_left (by omega)]; rfl]
                    exact this
                  case measure => simp [intOf] <;> omega
                · have hjd : ((j : Int) == (k : Int)) = false := by simp; omega
                  obtain ⟨y5, hy5⟩ : ∃ y, gi p j = y := ⟨_, rfl⟩
                  rw [hy5] at q5
                  have HY5 := Lib.hid hy5; have HJK := Lib.hid hjk; clear hy5 hjk
                  go_wp2_with (at_builtin; refine wpList_append_own _ rfl (.tmp 73) (.tmp 78) 22 rfl w.heap.size 3 i0 (.int .i64 0) 1 8 Try.underlying22 hinf hz0 hz1 hz2 rfl (by decide) _ _ _ rfl (HOV.out.alloc _) ⟨wr.heap.size, 0, none⟩ 1 1 [.int .i64 y5] rfl rfl (cell_one_new _ _ _) (by intro u hu; simp at hu; subst hu; rfl) (by unfold maxLen; omega) (by omega) (by simp; omega) ?_; intro v5 w5 hown5 hgrow5 _; have HO5 := Lib.hid hown5; have HG5 := Lib.hid hgrow5; clear hown5 hgrow5)
                  go_roundw
                  case rel =>
                    have hsz := HG5.out.size
                    rw [World.size_alloc] at hsz
                    refine ⟨_, j - 1, _, rfl, rfl, by omega, by omega, by omega, ?_, (hb5.out.alloc hs5 _).grown HG5.out (by simp; omega) (fun q hq => (HOV.out.lt q hq).1)⟩
                    have hm1 : a + 1 + (n - 1 - (j - 1)) = (a + (n - j)) + 1 := by omega
                    have e1 : (nextP p a k).take (a + 1 + (n - 1 - (j - 1))) = (nextP p a k).take (a + (n - j)) ++ [y5] := by
                      rw [hm1, take_tab_succ (by rw [nextP_len, Hx.out]; omega), ← Hx.out, nextP_at (by rw [Hx.out]; omega) haj, swapAt, if_neg HJK.out, HY5.out]
                    rw [e1]
                    have := HO5.out
                    unfold Hid Own
                    rw [show ints ((nextP p a k).take (a + (n - j)) ++ [y5]) = ints ((nextP p a k).take (a + (n - j))) ++ [.int .i64 y5] from by simp [ints], show ((nextP p a k).take (a + (n - j)) ++ [y5]).length = (a + (n - j)) + 1 from by rw [List.length_append, List.length_take, nextP_len, Hx.out, Nat.min_eq_left (by omega)]; rfl]
                    exact this
                  case measure => simp [intOf] <;> omega
              · obtain rfl : a = j := by omega
                have HOF : Hid (Own wr w.heap.size v (nextL p)) := by
                  rw [Hid, HNL.out]
                  have := hos.out
                  rw [List.take_of_length_le (by rw [nextP_len, Hx.out]; omega)] at this
                  exact this
                clear hos
                go_wp2_with fail
                go_ret
                exact ⟨_, rfl, HOF.out, hb5.out⟩

end Go.Proofs.Ythcdhkelpepeeaa
