/-
  Exchanges that lead from one class to another one: the program's.
-/
import Derived.Test.YtkbdbkoeahihiaaPtF
import Derived.Test.YtkbdbkoeahihiaaPtL
import Derived.Test.YtkbdbkoeahihiaaType
namespace Go.Proofs.Ytkbdbkoeahihiaa
open Go.RowKit
set_option linter.unusedVariables false

/-- Nothing moves but x and y, which are exchanged. -/
def swL (s x y : Nat) : List Int := ((marks 0 s).set x (y : Int)).set y (x : Int)
def kindOf (q : List Int) : List Int := (typeR q).2
def hitI (a b : List Int) (s y x : Nat) : Bool := eqB (kindOf (mulL (cf a) (swL s x y))) b
def inn (H : Nat → Nat → Bool) (y : Nat) : Nat → Nat
  | 0 => 0
  | x + 1 => inn H y x + if H y x then 1 else 0
def outn (H : Nat → Nat → Bool) : Nat → Nat
  | 0 => 0
  | y + 1 => outn H y + inn H y y
theorem inn_le (H : Nat → Nat → Bool) (y x : Nat) : inn H y x ≤ x := by
  induction x with
  | zero => exact Nat.le_refl _
  | succ x ih => simp only [inn]; split <;> omega
theorem outn_le (H : Nat → Nat → Bool) (y : Nat) : outn H y ≤ y * y := by
  induction y with
  | zero => exact Nat.le_refl _
  | succ y ih =>
    have := inn_le H y y
    have e : (y + 1) * (y + 1) = y * y + 2 * y + 1 := by rw [Nat.add_mul, Nat.mul_add]; omega
    simp only [outn]; omega
def cut (a b : List Int) : Int := (outn (hitI a b (sumI a).toNat) (sumI a).toNat : Nat)
def ctR (a b : List Int) : Int := if prB a b = true then cut a b else -1

theorem eqP_any (A A' : Option Addr) (n m c c' : Nat) (xs ys : List Int) (w : World) (h : Rd w A n xs) (h' : Rd w A' m ys) (hn : n ≤ 1048576) (hm : m ≤ 1048576) :
    Calls Try.prog 75 #[.slice A n c, .slice A' m c'] w fun e w' => e = .returned (.bool (eqB xs ys)) ∧ ∃ k, w' = w.drewN k := by
  have hxl := h.1
  have hyl := h'.1
  by_cases hnm : n = m
  · subst hnm
    have H := Lib.hid h; have H' := Lib.hid h'; clear h h'
    have Hx := Lib.hid hxl; have Hy := Lib.hid hyl; clear hxl hyl
    have ht : (((n : Nat) : Int) != n) = false := by simp
    go_enter Try.func75, Try.ntmps75
    go_wp2_with fail
    go_loopw [13] (fun i wr => ∃ k q : Nat, k ≤ n ∧ i = .int .i64 k ∧ wr = w.drewN q ∧ Hid (∀ j, j < k → gi xs j = gi ys j)) (fun i _ => n - (intOf i).toNat)
    case atStart => exact ⟨0, 0, Nat.zero_le _, rfl, rfl, fun j hj => absurd hj (by omega)⟩
    case round =>
      obtain ⟨k, q, hk, rfl, rfl, hall⟩ := hrel
      by_cases hlt : k < n
      · obtain ⟨ad, rfl, hc⟩ := H.out.at_ hlt
        obtain ⟨ad', rfl, hc'⟩ := H'.out.at_ hlt
        by_cases he : gi xs k = gi ys k
        · have he' : (gi xs k != gi ys k) = false := by simp [he]
          have HE := Lib.hid he; clear he
          go_wp2_with fail
          go_quiet (fail)
          go_wp2_with fail
          go_roundw
          case rel => exact ⟨k + 1, q + _, by omega, by go_num, by first | rfl | exact World.drewN_drewN _ _ _, fun j hj => by
            by_cases e : j = k
            · subst e; exact HE.out
            · exact hall.out j (by omega)⟩
          case measure => simp [intOf]; omega
        · have he' : (gi xs k != gi ys k) = true := by simp [he]
          have HE := Lib.hid he; clear he
          go_wp2_with fail
          go_quiet (fail)
          go_wp2_with fail
          go_ret
          exact ⟨ret_bool (by
            symm
            simp only [eqB, decide_eq_false_iff_not]
            intro e; exact HE.out (by rw [e])), q + _, by first | rfl | exact World.drewN_drewN _ _ _⟩
      · go_wp2_with fail
        go_ret
        exact ⟨ret_bool (eqB_true (eq_of_gi (by rw [Hx.out, Hy.out]) (fun j hj => hall.out j (by rw [Hx.out] at hj; omega)))).symm, _, rfl⟩
  · have ht : (((n : Nat) : Int) != m) = true := by simp; omega
    have hne : eqB xs ys = false := by
      simp only [eqB, decide_eq_false_iff_not]
      intro e; apply hnm; rw [← hxl, ← hyl, e]
    have Hx := Lib.hid hne; clear hne hxl hyl h h'
    go_enter Try.func75, Try.ntmps75
    go_wp2_with fail
    go_ret
    exact ⟨ret_bool Hx.out.symm, 0, rfl⟩

theorem typeOf_any (B A : Option Addr) (m d n c : Nat) (b q : List Int) (w : World) (h : Rd w B m b) (h' : Rd w A n q) (hm : m ≤ 1048576) (hn : n ≤ 1048576) {r : Bool} (hr : eqB (kindOf q) b = r) :
    Calls Try.prog 56 #[.slice B m d, .slice A n c] w fun e w' => e = .returned (.bool r) ∧ Below w.heap.size w w' := by
  obtain ⟨ok, ks, hty⟩ : ∃ ok ks, typeR q = (ok, ks) := ⟨_, _, rfl⟩
  obtain ⟨mk, hmk⟩ : ∃ mk, ks.length = mk := ⟨_, rfl⟩
  have hmk12 : mk ≤ 12 := by rw [← hmk]; exact typeR_len hty
  have hks : kindOf q = ks := by rw [kindOf, hty]
  rw [hks] at hr
  have H := Lib.hid h; have H' := Lib.hid h'; have HTY := Lib.hid hty; have HMK := Lib.hid hmk; have HR := Lib.hid hr
  clear h h' hty hmk hr hks
  go_enter Try.func56, Try.ntmps56
  go_wp2_with fail
  refine (impl_typeR w A c n q H'.out hn HTY.out).mono ?_
  rintro e w1 ⟨v, rfl, o, b1⟩
  obtain ⟨Ak, ck, rfl, hrk, -⟩ := o.form' HMK.out
  have HRK := Lib.hid hrk; have HB := Lib.hid b1; have HH := Lib.hid (H.out.below b1)
  clear o b1 hrk
  go_wp2_with fail
  refine (eqP_any Ak B mk m ck d ks b w1 HRK.out HH.out (by omega) hm).mono ?_
  rintro e w2 ⟨rfl, q, rfl⟩
  rw [HR.out]
  go_wp2_with fail
  go_ret
  exact ⟨rfl, below_drewN HB.out _⟩

theorem cf_vld : ∀ p ∈ allPts, Vld (cf p) ∧ (cf p).length = (sumI p).toNat := by decide +kernel

set_option maxHeartbeats 1600000 in
theorem impl_ctR (w : World) (A0 : Option Addr) (c0 n0 : Nat) (xs0 : List Int) (h0 : Rd w A0 n0 xs0) (hn0 : n0 ≤ 1048576) (A1 : Option Addr) (c1 n1 : Nat) (xs1 : List Int) (h1 : Rd w A1 n1 xs1) (hn1 : n1 ≤ 1048576)
    {r : Int} (hR : ctR xs0 xs1 = r) :
    Calls Try.prog 29 #[.slice A0 n0 c0, .slice A1 n1 c1] w fun e w' => e = .returned (.int .i64 r) ∧ Below w.heap.size w w' := by
  have H0 := Lib.hid h0; have H1 := Lib.hid h1; have HR := Lib.hid hR; clear h0 h1 hR
  by_cases hb : prB xs0 xs1 = true
  · obtain rfl : cut xs0 xs1 = r := by have := HR.out; rw [ctR, if_pos hb] at this; exact this
    have hp := prB_iff.1 hb
    have hsm := hp.1.sum
    obtain ⟨s, hs⟩ := Int.eq_ofNat_of_zero_le (show 0 ≤ sumI xs0 by omega)
    obtain ⟨v1, v2⟩ := cf_vld xs0 hp.1.all
    rw [hs] at v2 hsm
    have v2' : (cf xs0).length = s := by rw [v2]; omega
    have HP := Lib.hid hp; have HV := Lib.hid v1; have HL := Lib.hid v2'
    have HCUT : Hid (cut xs0 xs1 = (outn (hitI xs0 xs1 s) s : Nat)) := by rw [Hid, cut, hs]; rfl
    have hs6 : s ≤ 6 := by omega
    clear HR hp hs v1 v2 v2' hsm
    go_enter Try.func29, Try.ntmps29
    go_wp2_with fail
    refine (partsPair_any A0 A1 n0 n1 c0 c1 xs0 xs1 w H0.out H1.out hn0 hn1 hb).mono ?_
    rintro e w1 ⟨rfl, rfl⟩
    go_wp2_with fail
    refine (classFirst_any A0 n0 c0 xs0 w1 H0.out HP.out.1).mono ?_
    rintro e w2 ⟨v, rfl, o, b⟩
    obtain ⟨Af, cf', rfl, hrf, -⟩ := o.form' HL.out
    have HF := Lib.hid hrf; have HB := Lib.hid b; have H12 := Lib.hid (H1.out.below b)
    clear o b hrf
    go_wp2_with fail
    go_loopw [6, 18] (fun cv yv wr => ∃ (y m : Nat), y ≤ s ∧ cv = .int .i64 m ∧ yv = .int .i64 y ∧ Hid (m = outn (hitI xs0 xs1 s) y) ∧ Hid (Below w2.heap.size w2 wr)) (fun _ yv _ => s - (intOf yv).toNat)
    case atStart => exact ⟨0, 0, Nat.zero_le _, rfl, rfl, rfl, Below.refl _ _⟩
    case round =>
      obtain ⟨y, m, hy, rfl, rfl, hM, hB⟩ := hrel
      have hbs := hB.out.size
      have hml := outn_le (hitI xs0 xs1 s) y
      rw [← hM.out] at hml
      have hyy : y * y ≤ 36 := Nat.mul_le_mul (show y ≤ 6 by omega) (show y ≤ 6 by omega)
      by_cases hlt : y < s
      · go_wp2_with fail
        go_loopw [6, 22] (fun cv xv wz => ∃ (x k : Nat), x ≤ y ∧ cv = .int .i64 k ∧ xv = .int .i64 x ∧ Hid (k = m + inn (hitI xs0 xs1 s) y x) ∧ Hid (Below w2.heap.size w2 wz)) (fun _ xv _ => y - (intOf xv).toNat)
        case atStart => exact ⟨0, m, Nat.zero_le _, rfl, rfl, rfl, hB⟩
        case round =>
          obtain ⟨x, k, hx, rfl, rfl, hK, hB⟩ := hrel
          have hbs := hB.out.size
          have hil := inn_le (hitI xs0 xs1 s) y x
          have hkb : k ≤ 50 := by rw [hK.out]; omega
          by_cases hltx : x < y
          · go_wp2_with fail
            refine (stillPerm_any s wr (by omega)).mono ?_
            rintro e w3 ⟨v, rfl, o, b⟩
            obtain ⟨Ae, ce, rfl, -, -⟩ := o.form' (marks_len 0 s)
            obtain ⟨g, rfl, hlg, hcx, hfx⟩ := o.cellAt (marks_len 0 s) (show x < s by omega)
            have hst := o.stored (marks_len 0 s) x (y : Int)
            have hl2 : ((marks 0 s).set x (y : Int)).length = s := by rw [List.length_set, marks_len]
            obtain ⟨_, e1, -, hcy, hfy⟩ := hst.1.cellAt hl2 (show y < s from hlt)
            injection e1 with e1
            injection e1 with e1
            subst e1
            have hst2 := hst.1.stored hl2 y (x : Int)
            obtain ⟨W, hW⟩ : ∃ W, (w3.setCell ⟨g, x, none⟩ (.int .i64 y)).setCell ⟨g, y, none⟩ (.int .i64 x) = W := ⟨_, rfl⟩
            rw [hW] at hst2
            have hbw : Below wr.heap.size wr W := by rw [← hW]; exact (b.setCell (p := ⟨g, x, none⟩) hlg _).setCell (p := ⟨g, y, none⟩) hlg _
            have HLW : Hid ((swL s x y).length = s) := by rw [Hid, swL, List.length_set]; exact hl2
            have HEX : Hid (Rd W (some ⟨g, 0, none⟩) s (swL s x y)) := Own.rd (lo := wr.heap.size) (c := ce) hst2.1 HLW.out
            have HW := Lib.hid hW; have HBW := Lib.hid hbw
            have hxs : x < s := by omega
            have hxs' : (x : Int) < (s : Int) := by omega
            have hys' : (y : Int) < (s : Int) := by omega
            clear o b hst hl2 hst2 hW hbw
            go_wp2_with fail
            rw [HW.out]
            refine (then_any Af (some ⟨g, 0, none⟩) s s cf' ce (cf xs0) (swL s x y) W ((HF.out.below hB.out).below HBW.out) HEX.out (by omega) (by omega) (HV.out.into HL.out)).mono ?_
            rintro e w4 ⟨v, rfl, o, b⟩
            obtain ⟨Aq, cq, rfl, hrq, -⟩ := o.form' (n := s) (by rw [mulL_len]; exact HL.out)
            have HQ := Lib.hid hrq
            have HB4 : Hid (Below w2.heap.size w2 w4) := hB.out.trans ((HBW.out.trans (b.mono HBW.out.size)).mono hbs)
            have H14 := Lib.hid (H12.out.below HB4.out)
            obtain ⟨hh, hhh⟩ : ∃ hh, hitI xs0 xs1 s y x = hh := ⟨_, rfl⟩
            have HHH := Lib.hid hhh
            clear o b hrq hhh
            go_wp2_with fail
            refine (typeOf_any A1 Aq n1 c1 s cq xs1 (mulL (cf xs0) (swL s x y)) w4 H14.out HQ.out hn1 (by omega) (r := hh) HHH.out).mono ?_
            rintro e w5 ⟨rfl, b⟩
            have HB5 : Hid (Below w2.heap.size w2 w5) := HB4.out.trans (b.mono HB4.out.size)
            clear b
            cases hh with
            | true =>
              have HN : Hid (inn (hitI xs0 xs1 s) y (x + 1) = inn (hitI xs0 xs1 s) y x + 1) := by rw [Hid, inn, HHH.out]; rfl
              go_wp2_with fail
              go_roundw
              case rel => exact ⟨x + 1, k + 1, by omega, by go_num, by go_num, by rw [Hid, HN.out, hK.out]; omega, HB5.out⟩
              case measure => simp [intOf]; omega
            | false =>
              have HN : Hid (inn (hitI xs0 xs1 s) y (x + 1) = inn (hitI xs0 xs1 s) y x) := by rw [Hid, inn, HHH.out]; simp
              go_wp2_with fail
              go_roundw
              case rel => exact ⟨x + 1, k, by omega, rfl, by go_num, by rw [Hid, HN.out]; exact hK.out, HB5.out⟩
              case measure => simp [intOf]; omega
          · have hxy : x = y := by omega
            have HK2 : Hid (k = outn (hitI xs0 xs1 s) (y + 1)) := by rw [Hid, outn, hK.out, hM.out, hxy]
            clear hxy
            go_wp2_with fail
            go_roundw
            case rel => exact ⟨y + 1, k, by omega, rfl, by go_num, HK2.out, hB⟩
            case measure => simp [intOf]; omega
      · obtain rfl : y = s := by omega
        go_wp2_with fail
        go_ret
        exact ⟨ret_int (by rw [HCUT.out, hM.out]), HB.out.trans (hB.out.mono HB.out.size)⟩
  · have hb' : prB xs0 xs1 = false := by simpa using hb
    obtain rfl : -1 = r := by have := HR.out; rw [ctR, if_neg hb] at this; exact this
    clear HR hb
    go_enter Try.func29, Try.ntmps29
    go_wp2_with fail
    refine (partsPair_any A0 A1 n0 n1 c0 c1 xs0 xs1 w H0.out H1.out hn0 hn1 hb').mono ?_
    rintro e w1 ⟨rfl, rfl⟩
    go_wp2_with fail
    go_ret
    exact ⟨rfl, Below.refl _ _⟩

end Go.Proofs.Ytkbdbkoeahihiaa
