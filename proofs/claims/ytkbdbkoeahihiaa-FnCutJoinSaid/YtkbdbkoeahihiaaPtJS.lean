/-
  Exchanges that lead from one class to another one: the model's.
-/
import Derived.Test.YtkbdbkoeahihiaaPtJ
import Derived.Test.YtkbdbkoeahihiaaPtH
namespace Go.Proofs.Ytkbdbkoeahihiaa
open Go.RowKit
set_option linter.unusedVariables false

def exL (p : List Int) (s i k : Nat) : List Int := tab s fun j => if gi p j = (i : Int) then (k : Int) else if gi p j = (k : Int) then (i : Int) else gi p j
theorem exL_len (p : List Int) (s i k : Nat) : (exL p s i k).length = s := tab_len _ _
def hitS (a b : List Int) (s i k : Nat) : Bool := eqB (typeL (exL (cf a) s i k)) b
theorem kind_same : ∀ p ∈ allPts, ∀ y, y < (sumI p).toNat → ∀ x, x < y → kindOf (mulL (cf p) (swL (sumI p).toNat x y)) = typeL (exL (cf p) (sumI p).toNat y x) := by decide +kernel
theorem inn_congr {H H' : Nat → Nat → Bool} {y : Nat} : ∀ x, (∀ i, i < x → H y i = H' y i) → inn H y x = inn H' y x := by
  intro x
  induction x with
  | zero => intro _; rfl
  | succ x ih => intro h; simp only [inn, ih (fun i hi => h i (by omega)), h x (by omega)]
theorem outn_congr {H H' : Nat → Nat → Bool} : ∀ y, (∀ i, i < y → ∀ j, j < i → H i j = H' i j) → outn H y = outn H' y := by
  intro y
  induction y with
  | zero => intro _; rfl
  | succ y ih => intro h; simp only [outn, ih (fun i hi => h i (by omega)), inn_congr y (h y (by omega))]
theorem cut_same {a b : List Int} (ha : a ∈ allPts) : (outn (hitS a b (sumI a).toNat) (sumI a).toNat : Int) = cut a b := by
  rw [cut, outn_congr (H := hitS a b (sumI a).toNat) (H' := hitI a b (sumI a).toNat) _ (fun i hi j hj => by rw [hitS, hitI, kind_same a ha i hi j hj])]
theorem exL_vld : ∀ p ∈ allPts, ∀ i, i < (sumI p).toNat → ∀ k, k < i → Vld (exL (cf p) (sumI p).toNat i k) := by decide +kernel
theorem cmpL_eqB {xs ys : List Int} (h : xs.length = ys.length) : (cmpL xs ys == 0) = eqB xs ys := by
  by_cases e : xs = ys
  · rw [e, cmpL_self, eqB_refl]; rfl
  · have h0 : ¬ cmpL xs ys = 0 := fun h0 => e (cmpL_zero h h0)
    have h1 : eqB xs ys = false := by simp [eqB, e]
    rw [h1]; simpa using h0

theorem gi_exL {p : List Int} {s i k j : Nat} (h : j < s) : gi (exL p s i k) j = if gi p j = (i : Int) then (k : Int) else if gi p j = (k : Int) then (i : Int) else gi p j := gi_tab h

set_option maxRecDepth 20000 in
set_option maxHeartbeats 3200000 in
theorem spec_ctR (w : World) (A0 : Option Addr) (c0 n0 : Nat) (xs0 : List Int) (h0 : Rd w A0 n0 xs0) (hn0 : n0 ≤ 1048576) (A1 : Option Addr) (c1 n1 : Nat) (xs1 : List Int) (h1 : Rd w A1 n1 xs1) (hn1 : n1 ≤ 1048576)
    {r : Int} (hR : ctR xs0 xs1 = r) :
    Calls Try.prog 30 #[.slice A0 n0 c0, .slice A1 n1 c1] w fun e w' => e = .returned (.int .i64 r) ∧ Below w.heap.size w w' := by
  have H0 := Lib.hid h0; have H1 := Lib.hid h1; have HR := Lib.hid hR; clear h0 h1 hR
  by_cases p1 : pt xs0 = true
  · by_cases p2 : pt xs1 = true
    · have P1 := Lib.hid (Pt_of p1); have P2 := Lib.hid (Pt_of p2)
      by_cases he : sumI xs0 = sumI xs1
      · have hq : (sumI xs0 != sumI xs1) = false := by simpa using he
        have hb : prB xs0 xs1 = true := by simp [prB, p1, p2, he]
        obtain rfl : cut xs0 xs1 = r := by have := HR.out; rw [ctR, if_pos hb] at this; exact this
        have hp := prB_iff.1 hb
        have hsm := hp.1.sum
        obtain ⟨s, hs⟩ := Int.eq_ofNat_of_zero_le (show 0 ≤ sumI xs0 by omega)
        obtain ⟨v1, v2⟩ := cf_vld xs0 hp.1.all
        have hev := exL_vld xs0 hp.1.all
        have hcs := cut_same (b := xs1) hp.1.all
        have et : (sumI xs0).toNat = s := by omega
        rw [et] at v2 hev hcs
        have hs6 : s ≤ 6 := by omega
        have HP := Lib.hid hp; have HV := Lib.hid v1; have HL := Lib.hid v2; have HEV := Lib.hid hev; have HCUT := Lib.hid hcs
        have h16 : n1 ≤ 6 := by have := hp.2.1.len; rw [H1.out.1] at this; exact this
        clear HR hp hs v1 v2 hev hcs hsm he et hb
        go_enter Try.func30, Try.ntmps30
        go_wp2_with fail
        refine (spec_ptq w A0 c0 n0 xs0 H0.out hn0 p1).mono ?_
        rintro e w1 ⟨rfl, q, rfl⟩
        go_wp2_with fail
        refine (spec_ptq _ A1 c1 n1 xs1 (H1.out.drewN q) hn1 p2).mono ?_
        rintro e w2 ⟨rfl, q', rfl⟩
        go_wp2_with fail
        refine (l5Sum_any A0 n0 c0 xs0 _ (H0.out.drewN _) P1.out).mono ?_
        rintro e w3 ⟨rfl, rfl⟩
        go_wp2_with fail
        refine (l5Sum_any A1 n1 c1 xs1 _ (H1.out.drewN _) P2.out).mono ?_
        rintro e w4 ⟨rfl, rfl⟩
        go_wp2_with fail
        refine (spec_cfR _ A0 c0 n0 xs0 (H0.out.drewN _) hn0 (ok := true) (ys := cf xs0) (by rw [cfR, if_pos p1])).mono ?_
        rintro e w5 ⟨v, rfl, o, b⟩
        obtain ⟨Af, cf', rfl, hrf, -⟩ := o.form' HL.out
        have HB := Lib.hid ((below_drewN (Below.refl w.heap.size w) _).trans b)
        have HF := Lib.hid hrf; have H12 := Lib.hid (H1.out.below HB.out)
        clear o b hrf
        go_wp2_with fail
        go_loopw [7, 8] (fun cv iv wr => ∃ (i m : Nat), i ≤ s ∧ cv = .int .i64 m ∧ iv = .int .i64 i ∧ Hid (m = outn (hitS xs0 xs1 s) i) ∧ Hid (Below w5.heap.size w5 wr)) (fun _ iv _ => s - (intOf iv).toNat)
        case atStart => exact ⟨0, 0, Nat.zero_le _, rfl, rfl, rfl, Below.refl _ _⟩
        case round =>
          obtain ⟨i, m, hi, rfl, rfl, hM, hB⟩ := hrel
          have hbs := hB.out.size
          have hml := outn_le (hitS xs0 xs1 s) i
          rw [← hM.out] at hml
          have hii : i * i ≤ 36 := Nat.mul_le_mul (show i ≤ 6 by omega) (show i ≤ 6 by omega)
          by_cases hlt : i < s
          · go_wp2_with fail
            go_loopw [7, 9] (fun cv kv wz => ∃ (k t : Nat), k ≤ i ∧ cv = .int .i64 t ∧ kv = .int .i64 k ∧ Hid (t = m + inn (hitS xs0 xs1 s) i k) ∧ Hid (Below w5.heap.size w5 wz)) (fun _ kv _ => i - (intOf kv).toNat)
            case atStart => exact ⟨0, m, Nat.zero_le _, rfl, rfl, rfl, hB⟩
            case round =>
              obtain ⟨k, t, hk, rfl, rfl, hK, hB⟩ := hrel
              have hbs := hB.out.size
              have hil := inn_le (hitS xs0 xs1 s) i k
              have htb : t ≤ 50 := by rw [hK.out]; omega
              by_cases hltk : k < i
              · have HFr := Lib.hid (HF.out.below hB.out)
                go_wp2_with fail
                refine (l2Copy_any Af s cf' (cf xs0) wr HFr.out (by omega) (by omega)).mono ?_
                rintro e w6 ⟨v, rfl, o, b⟩
                obtain ⟨Ax, cx, rfl, -, -⟩ := o.form' HL.out
                obtain ⟨g, rfl, hlg, -, -⟩ := o.cellAt HL.out (show 0 < s by omega)
                have HO := Lib.hid o; have HB6 := Lib.hid b; have HFs := Lib.hid (HFr.out.below b)
                obtain ⟨B0, hB0⟩ : ∃ B0, wr.heap.size = B0 := ⟨_, rfl⟩
                have HB0 : Hid (B0 ≤ wr.heap.size ∧ wr.heap.size ≤ B0) := by rw [Hid]; omega
                rw [hB0] at hlg HO HB6
                have hne : ∀ ad, Af = some ad → ad.block < B0 := fun ad e => by rw [← hB0]; exact Rd.lt HFr.out ad e (by omega)
                have HNE := Lib.hid hne
                clear o b hB0 hne
                go_wp2_with fail
                go_loopw [11] (fun jv wv => ∃ (j : Nat) (zs : List Int), j ≤ s ∧ jv = .int .i64 j ∧ Hid (zs.length = s) ∧ Hid (Own wv B0 (.slice (some ⟨g, 0, none⟩) s cx) zs) ∧ Hid (Below B0 w6 wv) ∧ Hid (∀ q, q < j → gi zs q = gi (exL (cf xs0) s i k) q) ∧ Hid (∀ q, j ≤ q → q < s → gi zs q = gi (cf xs0) q)) (fun jv _ => s - (intOf jv).toNat)
                case atStart => exact ⟨0, cf xs0, Nat.zero_le _, rfl, HL, HO, Below.refl _ _, fun q hq => absurd hq (by omega), fun q _ _ => rfl⟩
                case round =>
                  obtain ⟨j, zs, hj, rfl, hz, ho, hb, hA, hBq⟩ := hrel
                  by_cases hltj : j < s
                  · obtain ⟨adf, eA, hcf⟩ := HFs.out.at_ hltj
                    have hbf := HNE.out adf eA
                    have hcj : wr.cell? (adf.add j) = some (.int .i64 (gi (cf xs0) j)) := (hb.out.cell (by rw [add_block]; exact hbf)).trans hcf
                    subst eA
                    obtain ⟨_, e1, -, hcx, hfx⟩ := ho.out.cellAt hz.out hltj
                    injection e1 with e1
                    injection e1 with e1
                    subst e1
                    obtain ⟨u, hu⟩ : ∃ u, gi (cf xs0) j = u := ⟨_, rfl⟩
                    rw [hu] at hcj
                    have hex := gi_exL (p := cf xs0) (i := i) (k := k) hltj
                    rw [hu] at hex
                    have hgj := hBq.out j (Nat.le_refl _) hltj
                    rw [hu] at hgj
                    have HU := Lib.hid hu; have HEX := Lib.hid hex; have HGJ := Lib.hid hgj
                    have hjs : (j : Int) < (s : Int) := by omega
                    clear hu hex hgj hcf
                    by_cases c1 : u = (i : Int)
                    · have d1 : (u == (i : Int)) = true := by simpa using c1
                      have HS := Lib.hid (ho.out.stored hz.out j (k : Int))
                      have HEX2 : Hid (gi (exL (cf xs0) s i k) j = (k : Int)) := by rw [Hid, HEX.out, if_pos c1]
                      clear c1
                      go_wp2_with fail
                      go_roundw
                      case rel =>
                        refine ⟨j + 1, _, by omega, by go_num, by simpa [Hid] using hz.out, HS.out.1, hb.out.setCell hlg _, fun q hq => ?_, fun q h1 h2 => ?_⟩
                        · rw [gi_set _ _ _ _ (by rw [hz.out]; exact hltj)]
                          by_cases e : q = j
                          · rw [if_pos e, e, HEX2.out]
                          · rw [if_neg e]; exact hA.out q (by omega)
                        · rw [gi_set _ _ _ _ (by rw [hz.out]; exact hltj), if_neg (by omega)]; exact hBq.out q (by omega) h2
                      case measure => simp [intOf]; omega
                    · have d1 : (u == (i : Int)) = false := by simpa using c1
                      by_cases c2 : u = (k : Int)
                      · have d2 : (u == (k : Int)) = true := by simpa using c2
                        have HS := Lib.hid (ho.out.stored hz.out j (i : Int))
                        have HEX2 : Hid (gi (exL (cf xs0) s i k) j = (i : Int)) := by rw [Hid, HEX.out, if_neg c1, if_pos c2]
                        clear c1 c2
                        go_wp2_with fail
                        go_roundw
                        case rel =>
                          refine ⟨j + 1, _, by omega, by go_num, by simpa [Hid] using hz.out, HS.out.1, hb.out.setCell hlg _, fun q hq => ?_, fun q h1 h2 => ?_⟩
                          · rw [gi_set _ _ _ _ (by rw [hz.out]; exact hltj)]
                            by_cases e : q = j
                            · rw [if_pos e, e, HEX2.out]
                            · rw [if_neg e]; exact hA.out q (by omega)
                          · rw [gi_set _ _ _ _ (by rw [hz.out]; exact hltj), if_neg (by omega)]; exact hBq.out q (by omega) h2
                        case measure => simp [intOf]; omega
                      · have d2 : (u == (k : Int)) = false := by simpa using c2
                        have HEX2 : Hid (gi (exL (cf xs0) s i k) j = u) := by rw [Hid, HEX.out, if_neg c1, if_neg c2]
                        clear c1 c2
                        go_wp2_with fail
                        go_roundw
                        case rel =>
                          refine ⟨j + 1, zs, by omega, by go_num, hz, ho, hb, fun q hq => ?_, fun q h1 h2 => hBq.out q (by omega) h2⟩
                          by_cases e : q = j
                          · rw [e, HEX2.out]; exact HGJ.out
                          · exact hA.out q (by omega)
                        case measure => simp [intOf]; omega
                  · have hze : zs = exL (cf xs0) s i k := eq_of_gi (by rw [hz.out, exL_len]) (fun q hq => hA.out q (by rw [hz.out] at hq; omega))
                    have hvd := HEV.out i hlt k hltk
                    have hbw : Below w5.heap.size w5 wr := hB.out.trans (((HB6.out.trans (hb.out.mono (by have := HB6.out.size; omega))).mono (by have := HB0.out; omega)))
                    have HBW := Lib.hid hbw
                    have HRX : Hid (Rd wr (some ⟨g, 0, none⟩) s (exL (cf xs0) s i k)) := by rw [Hid, ← hze]; exact ho.out.rd hz.out
                    have HVD := Lib.hid hvd
                    have H14 := Lib.hid (H12.out.below hbw)
                    obtain ⟨mk, hmk⟩ : ∃ mk, (typeL (exL (cf xs0) s i k)).length = mk := ⟨_, rfl⟩
                    have hmk12 : mk ≤ 12 := by
                      rw [← hmk]
                      exact typeR_len (p := exL (cf xs0) s i k) (ok := true) (by rw [typeR, if_pos (vld_true hvd)])
                    have HMK := Lib.hid hmk
                    clear hze hvd hbw hmk
                    go_wp2_with fail
                    refine (l1Type_any (some ⟨g, 0, none⟩) s cx (exL (cf xs0) s i k) wr HRX.out HVD.out).mono ?_
                    rintro e w7 ⟨v, rfl, o, b⟩
                    obtain ⟨At, ct, rfl, hrt, -⟩ := o.form' HMK.out
                    have HRT := Lib.hid hrt; have HB7 : Hid (Below w5.heap.size w5 w7) := HBW.out.trans (b.mono HBW.out.size)
                    have H17 := Lib.hid (H14.out.below b)
                    clear o b hrt
                    by_cases hlen : mk = n1
                    · have d1 : ((mk : Int) == (n1 : Int)) = true := by simp; omega
                      obtain ⟨cr, hcr⟩ : ∃ cr, cmpL (typeL (exL (cf xs0) s i k)) xs1 = cr := ⟨_, rfl⟩
                      have hcq := cmpL_eqB (xs := typeL (exL (cf xs0) s i k)) (ys := xs1) (by rw [HMK.out, H17.out.1]; exact hlen)
                      rw [hcr] at hcq
                      obtain ⟨hh, hhh⟩ : ∃ hh, hitS xs0 xs1 s i k = hh := ⟨_, rfl⟩
                      have hq2 : (cr == 0) = hh := by rw [hcq, ← hhh, hitS]
                      have HHH := Lib.hid hhh; have HCR := Lib.hid hcr
                      subst hlen
                      clear hcr hcq hhh
                      go_wp2_with fail
                      refine (l2Order_lit At A1 mk ct c1 _ xs1 w7 HRT.out H17.out hmk12 HCR.out).mono ?_
                      rintro e w8 ⟨rfl, q8, rfl⟩
                      cases hh with
                      | true =>
                        have HN : Hid (inn (hitS xs0 xs1 s) i (k + 1) = inn (hitS xs0 xs1 s) i k + 1) := by rw [Hid, inn, HHH.out]; rfl
                        go_wp2_with fail
                        go_roundw
                        case rel => exact ⟨k + 1, t + 1, by omega, by go_num, by go_num, by rw [Hid, HN.out, hK.out]; omega, below_drewN HB7.out _⟩
                        case measure => simp [intOf]; omega
                      | false =>
                        have HN : Hid (inn (hitS xs0 xs1 s) i (k + 1) = inn (hitS xs0 xs1 s) i k) := by rw [Hid, inn, HHH.out]; simp
                        go_wp2_with fail
                        go_roundw
                        case rel => exact ⟨k + 1, t, by omega, rfl, by go_num, by rw [Hid, HN.out]; exact hK.out, below_drewN HB7.out _⟩
                        case measure => simp [intOf]; omega
                    · have d1 : ((mk : Int) == (n1 : Int)) = false := by simp; omega
                      have HHH : Hid (hitS xs0 xs1 s i k = false) := by
                        rw [Hid, hitS, eqB, decide_eq_false_iff_not]
                        intro e
                        exact hlen (by rw [← HMK.out, e, H17.out.1])
                      have HN : Hid (inn (hitS xs0 xs1 s) i (k + 1) = inn (hitS xs0 xs1 s) i k) := by rw [Hid, inn, HHH.out]; simp
                      clear hlen
                      go_wp2_with fail
                      go_roundw
                      case rel => exact ⟨k + 1, t, by omega, rfl, by go_num, by rw [Hid, HN.out]; exact hK.out, HB7⟩
                      case measure => simp [intOf]; omega
              · have hki : k = i := by omega
                have HK2 : Hid (t = outn (hitS xs0 xs1 s) (i + 1)) := by rw [Hid, outn, hK.out, hM.out, hki]
                clear hki
                go_wp2_with fail
                go_roundw
                case rel => exact ⟨i + 1, t, by omega, rfl, by go_num, HK2.out, hB⟩
                case measure => simp [intOf]; omega
          · obtain rfl : i = s := by omega
            go_wp2_with fail
            go_ret
            exact ⟨ret_int (by rw [← HCUT.out, hM.out]), HB.out.trans (hB.out.mono HB.out.size)⟩
      · have hq : (sumI xs0 != sumI xs1) = true := by simpa using he
        have hb : ¬ prB xs0 xs1 = true := by simp [prB, p1, p2, he]
        obtain rfl : -1 = r := by have := HR.out; rw [ctR, if_neg hb] at this; exact this
        clear he HR hb
        go_enter Try.func30, Try.ntmps30
        go_wp2_with fail
        refine (spec_ptq w A0 c0 n0 xs0 H0.out hn0 p1).mono ?_
        rintro e w1 ⟨rfl, q, rfl⟩
        go_wp2_with fail
        refine (spec_ptq _ A1 c1 n1 xs1 (H1.out.drewN q) hn1 p2).mono ?_
        rintro e w2 ⟨rfl, q', rfl⟩
        go_wp2_with fail
        refine (l5Sum_any A0 n0 c0 xs0 _ (H0.out.drewN _) P1.out).mono ?_
        rintro e w3 ⟨rfl, rfl⟩
        go_wp2_with fail
        refine (l5Sum_any A1 n1 c1 xs1 _ (H1.out.drewN _) P2.out).mono ?_
        rintro e w4 ⟨rfl, rfl⟩
        go_wp2_with fail
        go_ret
        exact ⟨rfl, below_drewN (Below.refl _ _) _⟩
    · have p2 : pt xs1 = false := by simpa using p2
      have hb : ¬ prB xs0 xs1 = true := by simp [prB, p2]
      obtain rfl : -1 = r := by have := HR.out; rw [ctR, if_neg hb] at this; exact this
      clear HR hb
      go_enter Try.func30, Try.ntmps30
      go_wp2_with fail
      refine (spec_ptq w A0 c0 n0 xs0 H0.out hn0 p1).mono ?_
      rintro e w1 ⟨rfl, q, rfl⟩
      go_wp2_with fail
      refine (spec_ptq _ A1 c1 n1 xs1 (H1.out.drewN q) hn1 p2).mono ?_
      rintro e w2 ⟨rfl, q', rfl⟩
      go_wp2_with fail
      go_ret
      exact ⟨rfl, below_drewN (Below.refl _ _) _⟩
  · have p1 : pt xs0 = false := by simpa using p1
    have hb : ¬ prB xs0 xs1 = true := by simp [prB, p1]
    obtain rfl : -1 = r := by have := HR.out; rw [ctR, if_neg hb] at this; exact this
    clear HR hb
    go_enter Try.func30, Try.ntmps30
    go_wp2_with fail
    refine (spec_ptq w A0 c0 n0 xs0 H0.out hn0 p1).mono ?_
    rintro e w1 ⟨rfl, q, rfl⟩
    go_wp2_with fail
    go_ret
    exact ⟨rfl, below_drewN (Below.refl _ _) _⟩

end Go.Proofs.Ytkbdbkoeahihiaa
