/-
  FactorGenus, the model's and the program's, by contract.
-/
import Derived.Test.YtkbdbkoeahihiaaTys
namespace Go.Proofs.Ytkbdbkoeahihiaa
open Go.RowKit
set_option linter.unusedVariables false

theorem TyOk_of {xss : List (List Int)} (h : tyB xss = true) : TyOk xss := by simpa [tyB] using h
/-- What is twice the genus, over the first i types. -/
def twi (xss : List (List Int)) : Nat → Int
  | 0 => 2 - 2 * sumI (row xss 0)
  | i + 1 => twi xss i + (sumI (row xss 0) - ((row xss i).length : Nat))
def halfI (t : Int) : Int := if t < 0 then -1 else if t % 2 ≠ 0 then -1 else t / 2
def fgR (xss : List (List Int)) : Int := if tyB xss = true then halfI (twi xss xss.length) else -1
theorem twi_in {xss : List (List Int)} (h : TyOk xss) : ∀ i, i ≤ xss.length → -10 - 5 * (i : Int) ≤ twi xss i ∧ twi xss i ≤ 5 * (i : Int) := by
  intro i
  have hp := h.pair (j := 0) h.1
  have h1 := hp.1.sum
  have h6 := hp.1.2.2.2
  induction i with
  | zero => intro _; simp only [twi]; omega
  | succ i ih =>
    intro hi
    have := ih (by omega)
    have hq := h.pair (j := i) (by omega)
    have l1 := hq.2.1.1
    have l6 := hq.2.1.len
    simp only [twi]
    omega

set_option maxHeartbeats 1600000 in
theorem spec_fgR (w : World) (A : Option Addr) (c n : Nat) (xss : List (List Int)) (h : RdSS w A n xss) (hn : n ≤ 1048576) (ht : total xss ≤ 1048576) {r : Int} (hr : fgR xss = r) :
    Calls Try.prog 26 #[.slice A n c] w fun e w' => e = .returned (.int .i64 r) ∧ Below w.heap.size w w' := by
  have H := Lib.hid h; have Hx := Lib.hid h.1; have HT := Lib.hid ht; have HR := Lib.hid hr; clear h ht hr
  by_cases hb : tyB xss = true
  · have HOK : Hid (TyOk xss) := TyOk_of hb
    have HE : Hid (halfI (twi xss n) = r) := by rw [Hid, ← HR.out, fgR, if_pos hb, Hx.out]
    have l1 : 1 ≤ n := by rw [← Hx.out]; exact HOK.out.1
    have l6 : n ≤ 6 := by rw [← Hx.out]; exact HOK.out.2.1
    have p0 := (HOK.out.pair (j := 0) HOK.out.1).1
    have hs1 := p0.sum
    have hs6 := p0.2.2.2
    have P0 := Lib.hid p0; have HB := Lib.hid hb; clear p0 hb
    obtain ⟨s, hs⟩ : ∃ s, sumI (row xss 0) = s := ⟨_, rfl⟩
    rw [hs] at hs1 hs6
    have HS := Lib.hid hs; clear hs
    go_enter Try.func26, Try.ntmps26
    go_wp2_with fail
    refine (l5Types_any A n c xss w H.out hn HT.out HB.out).mono ?_
    rintro e w1 ⟨rfl, q, hW⟩
    have B1 : Hid (Below w.heap.size w w1) := hW ▸ below_drewN (Below.refl _ _) q
    have H1 := Lib.hid (H.out.below B1.out)
    clear hW
    obtain ⟨ad, A0, c0, n0, rfl, hc0, hr0, _⟩ := H1.out.at_ (k := 0) (by omega)
    rw [addz] at hc0
    have HR0 : Hid (Rd w1 A0 n0 (row xss 0)) := hr0
    clear hr0
    go_wp2_with (go_at_call 52; refine (l5Sum_any A0 n0 c0 _ _ HR0.out P0.out).mono ?_; rintro e w' ⟨rfl, rfl⟩; rw [HS.out])
    go_loop [4, 5] (fun u i => ∃ (k : Nat) (t : Int), k ≤ n ∧ i = .int .i64 k ∧ u = .int .i64 t ∧ -100 ≤ t ∧ t ≤ 100 ∧ Hid (t = twi xss k)) (fun _ i => n - (intOf i).toNat)
    case atStart => exact ⟨0, _, Nat.zero_le _, rfl, rfl, by omega, by omega, by simp [Hid, twi, HS.out]⟩
    case round =>
      obtain ⟨k, t, hk, rfl, rfl, ht0, ht1, htt⟩ := hrel
      by_cases hlt : k < n
      · obtain ⟨ad', Aj, cj, nj, e, hc, hr, _⟩ := H1.out.at_ hlt
        obtain rfl : ad = ad' := by simpa using e
        have hq := HOK.out.pair (j := k) (by rw [Hx.out]; exact hlt)
        have hnj : nj ≤ 6 := by have := hq.2.1.len; rw [show (row xss k).length = nj from hr.1] at this; exact this
        have tb := twi_in HOK.out (k + 1) (by rw [Hx.out]; omega)
        have e3 : twi xss (k + 1) = t + s - (nj : Nat) := by rw [twi, ← htt.out, HS.out, show (row xss k).length = nj from hr.1]; omega
        rw [e3] at tb
        have E3 := Lib.hid e3; clear e3 hq e hr
        go_wp2
        go_round
        case rel => exact ⟨k + 1, t + s - (nj : Nat), by omega, by go_num, by go_num, by omega, by omega, E3.out.symm⟩
        case measure => simp [intOf]; omega
      · have hkn : k = n := by omega
        have HE2 : Hid (halfI t = r) := by rw [Hid, htt.out, hkn]; exact HE.out
        clear hkn
        by_cases hneg : t < 0
        · have hd : decide (t < 0) = true := by simpa using hneg
          have HE3 : Hid (-1 = r) := by rw [Hid, ← HE2.out, halfI, if_pos hneg]
          go_wp2
          go_ret
          exact ⟨ret_int HE3.out, B1.out⟩
        · have hd : decide (t < 0) = false := by simpa using hneg
          by_cases hm : t % 2 = 0
          · have hq : (t % 2 != 0) = false := by simpa using hm
            have HE3 : Hid (t / 2 = r) := by rw [Hid, ← HE2.out, halfI, if_neg hneg, if_neg (by simpa using hm)]
            clear hm
            go_wp2
            go_ret
            exact ⟨ret_int HE3.out, B1.out⟩
          · have hq : (t % 2 != 0) = true := by simpa using hm
            have HE3 : Hid (-1 = r) := by rw [Hid, ← HE2.out, halfI, if_neg hneg, if_pos (by simpa using hm)]
            clear hm
            go_wp2
            go_ret
            exact ⟨ret_int HE3.out, B1.out⟩
  · have hb' : tyB xss = false := by simpa using hb
    have HE : Hid (-1 = r) := by rw [Hid, ← HR.out, fgR, if_neg hb]
    have HB := Lib.hid hb'; clear hb hb'
    go_enter Try.func26, Try.ntmps26
    go_wp2_with fail
    refine (l5Types_any A n c xss w H.out hn HT.out HB.out).mono ?_
    rintro e w1 ⟨rfl, q, rfl⟩
    go_wp2_with fail
    go_ret
    exact ⟨ret_int HE.out, below_drewN (Below.refl _ _) q⟩

set_option maxHeartbeats 1600000 in
theorem impl_fgR (w : World) (A : Option Addr) (c n : Nat) (xss : List (List Int)) (h : RdSS w A n xss) (hn : n ≤ 1048576) (ht : total xss ≤ 1048576) {r : Int} (hr : fgR xss = r) :
    Calls Try.prog 25 #[.slice A n c] w fun e w' => e = .returned (.int .i64 r) ∧ Below w.heap.size w w' := by
  have H := Lib.hid h; have Hx := Lib.hid h.1; have HT := Lib.hid ht; have HR := Lib.hid hr; clear h ht hr
  by_cases hb : tyB xss = true
  · have HOK : Hid (TyOk xss) := TyOk_of hb
    have HE : Hid (halfI (twi xss n) = r) := by rw [Hid, ← HR.out, fgR, if_pos hb, Hx.out]
    have l1 : 1 ≤ n := by rw [← Hx.out]; exact HOK.out.1
    have l6 : n ≤ 6 := by rw [← Hx.out]; exact HOK.out.2.1
    have p0 := (HOK.out.pair (j := 0) HOK.out.1).1
    have hs1 := p0.sum
    have hs6 := p0.2.2.2
    have P0 := Lib.hid p0; have HB := Lib.hid hb; clear p0 hb
    obtain ⟨s, hs⟩ : ∃ s, sumI (row xss 0) = s := ⟨_, rfl⟩
    rw [hs] at hs1 hs6
    have HS := Lib.hid hs; clear hs
    go_enter Try.func25, Try.ntmps25
    go_wp2_with fail
    refine (typesValid_any A n c xss w H.out hn HT.out HB.out).mono ?_
    rintro e w1 ⟨rfl, hW⟩
    have B1 : Hid (Below w.heap.size w w1) := hW ▸ Below.refl _ _
    have H1 := Lib.hid (H.out.below B1.out)
    clear hW
    obtain ⟨ad, A0, c0, n0, rfl, hc0, hr0, _⟩ := H1.out.at_ (k := 0) (by omega)
    rw [addz] at hc0
    have HR0 : Hid (Rd w1 A0 n0 (row xss 0)) := hr0
    clear hr0
    go_wp2_with (go_at_call 50; refine (sum_any A0 n0 c0 _ _ HR0.out P0.out).mono ?_; rintro e w' ⟨rfl, rfl⟩; rw [HS.out])
    go_loop [4, 19] (fun u i => ∃ (k : Nat) (t : Int), k ≤ n ∧ i = .int .i64 k ∧ u = .int .i64 t ∧ -100 ≤ t ∧ t ≤ 100 ∧ Hid (t = twi xss k)) (fun _ i => n - (intOf i).toNat)
    case atStart => exact ⟨0, _, Nat.zero_le _, rfl, rfl, by omega, by omega, by simp [Hid, twi, HS.out]⟩
    case round =>
      obtain ⟨k, t, hk, rfl, rfl, ht0, ht1, htt⟩ := hrel
      by_cases hlt : k < n
      · obtain ⟨ad', Aj, cj, nj, e, hc, hr, _⟩ := H1.out.at_ hlt
        obtain rfl : ad = ad' := by simpa using e
        have hq := HOK.out.pair (j := k) (by rw [Hx.out]; exact hlt)
        have hnj : nj ≤ 6 := by have := hq.2.1.len; rw [show (row xss k).length = nj from hr.1] at this; exact this
        have tb := twi_in HOK.out (k + 1) (by rw [Hx.out]; omega)
        have e3 : twi xss (k + 1) = t + s - (nj : Nat) := by rw [twi, ← htt.out, HS.out, show (row xss k).length = nj from hr.1]; omega
        rw [e3] at tb
        have E3 := Lib.hid e3; clear e3 hq e hr
        go_wp2
        go_round
        case rel => exact ⟨k + 1, t + s - (nj : Nat), by omega, by go_num, by go_num, by omega, by omega, E3.out.symm⟩
        case measure => simp [intOf]; omega
      · have hkn : k = n := by omega
        have HE2 : Hid (halfI t = r) := by rw [Hid, htt.out, hkn]; exact HE.out
        clear hkn
        by_cases hneg : t < 0
        · have hd : decide (t < 0) = true := by simpa using hneg
          have HE3 : Hid (-1 = r) := by rw [Hid, ← HE2.out, halfI, if_pos hneg]
          go_wp2
          go_ret
          exact ⟨ret_int HE3.out, B1.out⟩
        · have hd : decide (t < 0) = false := by simpa using hneg
          by_cases hm : t % 2 = 0
          · have hq : (t % 2 != 0) = false := by simpa using hm
            have HE3 : Hid (t / 2 = r) := by rw [Hid, ← HE2.out, halfI, if_neg hneg, if_neg (by simpa using hm)]
            clear hm
            go_wp2
            go_ret
            exact ⟨ret_int HE3.out, B1.out⟩
          · have hq : (t % 2 != 0) = true := by simpa using hm
            have HE3 : Hid (-1 = r) := by rw [Hid, ← HE2.out, halfI, if_neg hneg, if_pos (by simpa using hm)]
            clear hm
            go_wp2
            go_ret
            exact ⟨ret_int HE3.out, B1.out⟩
  · have hb' : tyB xss = false := by simpa using hb
    have HE : Hid (-1 = r) := by rw [Hid, ← HR.out, fgR, if_neg hb]
    have HB := Lib.hid hb'; clear hb hb'
    go_enter Try.func25, Try.ntmps25
    go_wp2_with fail
    refine (typesValid_any A n c xss w H.out hn HT.out HB.out).mono ?_
    rintro e w1 ⟨rfl, rfl⟩
    go_wp2_with fail
    go_ret
    exact ⟨ret_int HE.out, Below.refl _ _⟩

end Go.Proofs.Ytkbdbkoeahihiaa
