/-
  FactorCount, the program's and the model's, by contract.
-/
import Derived.Test.YtkbdbkoeahihiaaTys
import Derived.Test.YtkbdbkoeahihiaaPAll
import Derived.Test.YtkbdbkoeahihiaaPtG
import Derived.Test.YtkbdbkoeahihiaaPtH
import Derived.Deep.QuietTactic
namespace Go.Proofs.Ytkbdbkoeahihiaa
open Go.RowKit
set_option linter.unusedVariables false
attribute [local go_sem] Oper.semAt_some

/-- The product over the first i types. -/
def prdF (a : List Int) (xss : List (List Int)) : Nat → Int
  | 0 => IntKind.i64.wrap (dg a * dg a)
  | i + 1 => IntKind.i64.wrap (prdF a xss i * IntKind.i64.wrap ((IntKind.i64.wrap (cs (row xss i) * chr a (row xss i))).tdiv (dg a)))
def sumF (L : List (List Int)) (xss : List (List Int)) : Nat → Int
  | 0 => 0
  | i + 1 => IntKind.i64.wrap (sumF L xss i + prdF (L.getD i []) xss xss.length)
def shapesOf (xss : List (List Int)) : List (List Int) := ptsOf 7 (sumI (row xss 0)).toNat (sumI (row xss 0)).toNat
def fcR (xss : List (List Int)) : Int := if tyB xss = true then IntKind.i64.wrap ((sumF (shapesOf xss) xss (shapesOf xss).length).tdiv (fct (sumI (row xss 0)).toNat)) else -1
theorem shapes_in : ∀ n : Nat, n < 7 → 1 ≤ n → ∀ a ∈ ptsOf 7 n n, pt a = true ∧ sumI a = n := by decide +kernel

/-- A world above w: blocks were laid, nothing was written. -/
structure AbvN (w : World) where
  to : World
  b : Below w.heap.size w to
instance (w : World) : Inhabited (AbvN w) := ⟨⟨w, Below.refl _ _⟩⟩
theorem wp_region_quiet_abvN {P : Program} {id : Nat} {Q : Exit → Act → World → Prop} {a : Act} {w : World} {l : List Oper} (hm : P.follows .mixedOrders = true) (hB : Region.lexB .any l.toArray = true)
    (h : wpQuiet P l.toArray (fun w' => ∃ p : AbvN w, w' = p.to) (fun a' => ∀ w', (∃ p : AbvN w, w' = p.to) → Q .normal a' w') l a) : (Code.region id l.toArray true).wp P Q a w :=
  wp_region_quiet (C := fun w' => ∃ p : AbvN w, w' = p.to) hm hB ⟨⟨_, below_drewN (Below.refl _ w) 1⟩, rfl⟩ (by simpa using h)
theorem AbvN.calls {P : Program} {f : FuncId} {args : Array Value} {w : World} {p : AbvN w} {v : Value}
    (h : Calls P f args p.to fun e w' => e = .returned v ∧ Below p.to.heap.size p.to w') : Calls P f args p.to fun e w'' => e = .returned v ∧ ∃ q : AbvN w, w'' = q.to :=
  h.mono fun _ w'' ⟨he, hq⟩ => ⟨he, ⟨w'', p.b.trans (hq.mono p.b.size)⟩, rfl⟩

set_option maxRecDepth 20000 in
set_option maxHeartbeats 3200000 in
theorem impl_fcR (w : World) (g n : Nat) (xss : List (List Int)) (h : Rows w g n n xss) (hx : xss.length = n) (hn : n ≤ 1048576) (ht : total xss ≤ 1048576) {r : Int} (hr : fcR xss = r) :
    Calls Try.prog 31 #[.slice (some ⟨g, 0, none⟩) n n] w fun e w' => e = .returned (.int .i64 r) ∧ Below w.heap.size w w' := by
  have HW := Lib.hid h; have H := Lib.hid (h.rd hx); have Hx := Lib.hid hx; have HT := Lib.hid ht; have HR := Lib.hid hr; clear h hx ht hr
  by_cases hb : tyB xss = true
  · have HOK : Hid (TyOk xss) := by simpa [tyB, Hid] using hb
    have l1 : 1 ≤ n := by rw [← Hx.out]; exact HOK.out.1
    have l6 : n ≤ 6 := by rw [← Hx.out]; exact HOK.out.2.1
    have p0 := (HOK.out.pair (j := 0) HOK.out.1).1
    have hs1 := p0.sum
    obtain ⟨s, hs⟩ := Int.eq_ofNat_of_zero_le (show 0 ≤ sumI (row xss 0) by omega)
    have hs16 : 1 ≤ s ∧ s ≤ 6 := by omega
    have hts : (sumI (row xss 0)).toNat = s := by omega
    obtain ⟨L, hL⟩ : ∃ L, ptsOf 7 s s = L := ⟨_, rfl⟩
    have hLi := shapes_in s (by omega) hs16.1
    rw [hL] at hLi
    have hE : IntKind.i64.wrap ((sumF L xss L.length).tdiv (fct s)) = r := by rw [← HR.out, fcR, if_pos hb, shapesOf, hts, hL]
    have hf1 := (fct_in s (by omega))
    have hf0 : ¬ (fct s = 0) := by omega
    have P0 := Lib.hid p0; have HB := Lib.hid hb; have HS := Lib.hid hs; have HL := Lib.hid hL; have HLI := Lib.hid hLi; have HE := Lib.hid hE; clear p0 hb hs hL hLi hE hs1 hts hf1
    go_enter Try.func31, Try.ntmps31
    go_wp2_with fail
    refine (typesValid_any (some ⟨g, 0, none⟩) n n xss w H.out hn HT.out HB.out).mono ?_
    rintro e w1 ⟨rfl, rfl⟩
    obtain ⟨A0, n0, c0, hc0, ho0, hl0⟩ := HW.out.row (j := 0) (by omega)
    have HR0 : Hid (Rd w1 A0 n0 (row xss 0)) := ho0.rd hl0
    clear ho0 hl0
    go_wp2_with (go_at_call 50; refine (sum_any A0 n0 c0 _ _ HR0.out P0.out).mono ?_; rintro e w0 ⟨rfl, rfl⟩; rw [HS.out])
    refine (partitions_any s _ hs16.1 hs16.2).mono ?_
    rintro e w2 ⟨v, vs, rfl, ho, hro, hb⟩
    obtain ⟨m, hm⟩ : ∃ m, vs.length = m := ⟨_, rfl⟩
    rw [hm] at ho
    obtain ⟨Av, cv, rfl⟩ : ∃ A c, v = .slice A m c := by
      rcases ho.2 with ⟨rfl, hl⟩ | ⟨g, cap, cur, rfl, _⟩
      · exact ⟨none, 0, by rw [hl]⟩
      · exact ⟨_, cap, rfl⟩
    rw [HL.out] at hro
    have hlm : L.length = m := by rw [← hm, hro.1]
    have hm15 : m ≤ 15 := by rw [← hlm, ← HL.out]; exact (ptsOf_all s (by omega)).1
    have HO := Lib.hid ho; have HRO := Lib.hid hro; have HB2 := Lib.hid hb; have HVM := Lib.hid hm; have HLM := Lib.hid hlm
    clear ho hro hb hm hlm
    go_wp2_with fail
    go_loopw [4, 21] (fun sv iv wr => ∃ (i : Nat) (t : Int), i ≤ m ∧ sv = .int .i64 t ∧ iv = .int .i64 i ∧ Hid (t = sumF L xss i) ∧ Hid (Below w2.heap.size w2 wr)) (fun _ iv _ => m - (intOf iv).toNat)
    case atStart => exact ⟨0, _, Nat.zero_le _, rfl, rfl, rfl, Below.refl _ _⟩
    case round =>
      obtain ⟨i, t, hi, rfl, rfl, hT, hbr⟩ := hrel
      have hz2 := hbr.out.size
      by_cases hlt : i < m
      · have hA0 : ∃ ga, Av = some ⟨ga, 0, none⟩ ∧ w2.cell? ⟨ga, i, none⟩ = some (vs.getD i undef) := by
          have ho := HO.out
          rcases ho.2 with ⟨hv, h0⟩ | ⟨g, cap, cur, hv, hg, hh, _⟩
          · omega
          · simp only [Value.slice.injEq, true_and] at hv
            obtain ⟨rfl, rfl⟩ := hv
            refine ⟨g, rfl, ?_⟩
            rw [World.ownsRow.cellAt ho i (by omega)]
            simp [List.getD, List.getElem?_eq_getElem (show i < vs.length by rw [HVM.out]; exact hlt)]
        obtain ⟨ga, rfl, hca⟩ := hA0
        obtain ⟨a, ha⟩ : ∃ a, L.getD i [] = a := ⟨_, rfl⟩
        have hal : a ∈ L := by rw [← ha, List.getD_eq_getElem?_getD, List.getElem?_eq_getElem (by rw [HLM.out]; exact hlt)]; exact List.getElem_mem _
        have hai := HLI.out a hal
        have hown := (HRO.out.2.1 i (by rw [HLM.out]; exact hlt)).1
        rw [ha] at hown
        obtain ⟨na, hna⟩ : ∃ na, a.length = na := ⟨_, rfl⟩
        obtain ⟨Ai, ci, hvi, hrd, -⟩ := hown.form' hna
        rw [hvi] at hca
        have hca' : wr.cell? ⟨ga, i, none⟩ = some (.slice Ai na ci) := (hbr.out.cell (p := ⟨ga, i, none⟩) (World.block_lt_of_cell? w2 _ hca)).trans hca
        have HRA := Lib.hid (hrd.below hbr.out)
        have HPA := Lib.hid (Pt_of hai.1)
        have HSA := Lib.hid hai.2
        have hdg := (dg_same a HPA.out.all).2.2.2.1
        obtain ⟨dgv, hdv⟩ : ∃ dgv, dg a = dgv := ⟨_, rfl⟩
        have hd0 : ¬ (dgv = 0) := by rw [← hdv]; unfold dg; omega
        obtain ⟨q0, hq0⟩ : ∃ q0, IntKind.i64.wrap (dgv * dgv) = q0 := ⟨_, rfl⟩
        obtain ⟨t', ht'⟩ : ∃ t', IntKind.i64.wrap (t + prdF a xss n) = t' := ⟨_, rfl⟩
        have HDV := Lib.hid hdv; have HQ0 := Lib.hid hq0; have HT' := Lib.hid ht'; have HAA := Lib.hid ha
        clear hal hai hown hna hvi hrd hca hdg hdv ht' ha
        go_wp2_with (go_at_call 46; refine (degree_any Ai na ci a _ HRA.out HPA.out).mono ?_; rintro e w3 ⟨rfl, b⟩; have HB3 := Lib.hid b; clear b; rw [HDV.out])
        clear hq0
        have hz3 := HB3.out.size
        go_loopw [8, 32] (fun pv jv wy => ∃ (j : Nat) (p : Int), j ≤ n ∧ pv = .int .i64 p ∧ jv = .int .i64 j ∧ Hid (p = prdF a xss j) ∧ Hid (Below w3.heap.size w3 wy)) (fun _ jv _ => n - (intOf jv).toNat)
        case atStart => exact ⟨0, q0, Nat.zero_le _, rfl, rfl, by rw [Hid, prdF, HDV.out, HQ0.out], Below.refl _ _⟩
        case round =>
          obtain ⟨j, p, hj, rfl, rfl, hP, hbz⟩ := hrel
          have hzz := hbz.out.size
          by_cases hlj : j < n
          · have hbw : Below w0.heap.size w0 wr := (HB2.out.trans (hbr.out.mono HB2.out.size)).trans ((HB3.out.mono (by have := HB2.out.size; omega)).trans (hbz.out.mono (by have := HB2.out.size; omega)))
            obtain ⟨Aj, nj, cj', hcj, hoj, hlj'⟩ := HW.out.row hlj
            have hoj' := hoj.below hbw
            have hcj2 : wr.cell? ⟨g, j, none⟩ = some (.slice Aj nj cj') := (hbw.cell (p := ⟨g, j, none⟩) (World.block_lt_of_cell? w0 _ hcj)).trans hcj
            have hpr := HOK.out.pair (j := j) (by rw [Hx.out]; exact hlj)
            obtain ⟨b, hbb⟩ : ∃ b, row xss j = b := ⟨_, rfl⟩
            have hbb' : xss.getD j [] = b := hbb
            rw [hbb'] at hoj' hlj'
            rw [hbb] at hpr
            have HPB := Lib.hid hpr.2.1
            have HPR : Hid (PairOk a b) := ⟨HPA.out, HPB.out, by rw [HSA.out, ← HS.out]; exact hpr.2.2⟩
            have HRB := Lib.hid (hoj'.rd hlj')
            have HRA2 := Lib.hid (HRA.out.below (HB3.out.trans (hbz.out.mono hz3)))
            have HCP : Hid (nj ≤ cj') := hoj'.capP
            have HBK : Hid (0 < nj → ∃ g o, Aj = some ⟨g, o, none⟩ ∧ g < wr.heap.size) := fun h0 => by
              obtain ⟨gg, hg1, hg2, -, -⟩ := hoj'.cellAt (k := 0) hlj' h0
              subst hg1
              exact ⟨gg, 0, rfl, (hoj'.lt gg rfl).2⟩
            obtain ⟨u, hu⟩ : ∃ u, IntKind.i64.wrap (cs b * chr a b) = u := ⟨_, rfl⟩
            obtain ⟨q, hq⟩ : ∃ q, IntKind.i64.wrap (u.tdiv dgv) = q := ⟨_, rfl⟩
            obtain ⟨p', hp'⟩ : ∃ p', IntKind.i64.wrap (p * q) = p' := ⟨_, rfl⟩
            have HPN : Hid (p' = prdF a xss (j + 1)) := by rw [Hid, prdF, hbb, hu, HDV.out, hq, ← hP.out, hp']
            clear hoj hoj' hcj hlj' hpr hbb hbb' hbw
            go_wp2_with (first
              | (go_at_call 47; refine (classSize_any Aj nj cj' b _ HRB.out HPB.out).mono ?_; rintro e w4 ⟨rfl, rfl⟩)
              | (go_at_call 62; refine (partChar_any Ai Aj na nj ci cj' a b _ HRA2.out HRB.out HCP.out HBK.out HPR.out).mono ?_; rintro e w5 ⟨rfl, b5⟩; have HB5 := Lib.hid b5; clear b5))
            go_roundw
            case rel => exact ⟨j + 1, p', by omega, rfl, by go_num, HPN, hbz.out.trans (HB5.out.mono hzz)⟩
            case measure => simp [intOf]; omega
          · obtain rfl : j = n := by omega
            have hs3 : IntKind.i64.wrap (t + p) = t' := by rw [hP.out]; exact HT'.out
            have HTN : Hid (t' = sumF L xss (i + 1)) := by rw [Hid, sumF, HAA.out, ← hT.out, Hx.out, HT'.out]
            go_wp2_with fail
            go_roundw
            case rel => exact ⟨i + 1, t', by omega, rfl, by go_num, HTN, (hbr.out.trans (HB3.out.mono hz2)).trans (hbz.out.mono (by omega))⟩
            case measure => simp [intOf]; omega
      · obtain rfl : i = m := by omega
        have hE2 : IntKind.i64.wrap (t.tdiv (fct s)) = r := by rw [hT.out, ← HE.out, HLM.out]
        go_wp2_with (go_at_call 63; refine (factorial_any s _ (by omega)).mono ?_; rintro e w6 ⟨rfl, rfl⟩)
        go_ret
        exact ⟨rfl, HB2.out.trans (hbr.out.mono HB2.out.size)⟩
  · have hb' : tyB xss = false := by simpa using hb
    have HE : Hid (-1 = r) := by rw [Hid, ← HR.out, fcR, if_neg hb]
    have HB := Lib.hid hb'; clear hb hb'
    go_enter Try.func31, Try.ntmps31
    go_wp2_with fail
    refine (typesValid_any (some ⟨g, 0, none⟩) n n xss w H.out hn HT.out HB.out).mono ?_
    rintro e w1 ⟨rfl, rfl⟩
    go_wp2_with fail
    go_ret
    exact ⟨ret_int HE.out, Below.refl _ _⟩

set_option maxRecDepth 20000 in
set_option maxHeartbeats 3200000 in
theorem spec_fcR (w : World) (A : Option Addr) (c n : Nat) (xss : List (List Int)) (h : RdSS w A n xss) (hn : n ≤ 1048576) (ht : total xss ≤ 1048576) {r : Int} (hr : fcR xss = r) :
    Calls Try.prog 33 #[.slice A n c] w fun e w' => e = .returned (.int .i64 r) ∧ Below w.heap.size w w' := by
  have Hx := Lib.hid h.1; have H := Lib.hid h; have HT := Lib.hid ht; have HR := Lib.hid hr; clear h ht hr
  by_cases hb : tyB xss = true
  · have HOK : Hid (TyOk xss) := by simpa [tyB, Hid] using hb
    have l1 : 1 ≤ n := by rw [← Hx.out]; exact HOK.out.1
    have l6 : n ≤ 6 := by rw [← Hx.out]; exact HOK.out.2.1
    have p0 := (HOK.out.pair (j := 0) HOK.out.1).1
    have hs1 := p0.sum
    obtain ⟨s, hs⟩ := Int.eq_ofNat_of_zero_le (show 0 ≤ sumI (row xss 0) by omega)
    have hs16 : 1 ≤ s ∧ s ≤ 6 := by omega
    have hts : (sumI (row xss 0)).toNat = s := by omega
    obtain ⟨L, hL⟩ : ∃ L, ptsOf 7 s s = L := ⟨_, rfl⟩
    have hLi := shapes_in s (by omega) hs16.1
    rw [hL] at hLi
    have hE : IntKind.i64.wrap ((sumF L xss L.length).tdiv (fct s)) = r := by rw [← HR.out, fcR, if_pos hb, shapesOf, hts, hL]
    have hf1 := (fct_in s (by omega))
    have hf0 : ¬ (fct s = 0) := by omega
    have P0 := Lib.hid p0; have HB := Lib.hid hb; have HS := Lib.hid hs; have HL := Lib.hid hL; have HLI := Lib.hid hLi; have HE := Lib.hid hE; clear p0 hb hs hL hLi hE hs1 hts hf1
    go_enter Try.func33, Try.ntmps33
    go_wp2_with fail
    refine (l5Types_any A n c xss w H.out hn HT.out HB.out).mono ?_
    rintro e w1 ⟨rfl, q, hW⟩
    have HB1 : Hid (Below w.heap.size w w1) := hW ▸ below_drewN (Below.refl _ _) q
    have H1 := Lib.hid (H.out.below HB1.out)
    clear hW
    obtain ⟨ad, A0, c0, n0, rfl, hc0, hr0, _⟩ := H1.out.at_ (k := 0) (by omega)
    rw [addz] at hc0
    have HR0 : Hid (Rd w1 A0 n0 (row xss 0)) := hr0
    clear hr0
    go_wp2_with (go_at_call 52; refine (l5Sum_any A0 n0 c0 _ _ HR0.out P0.out).mono ?_; rintro e w0 ⟨rfl, rfl⟩; rw [HS.out])
    refine (l5All_any s _ (by omega)).mono ?_
    rintro e w2 ⟨ga, m, cv, rfl, hlm, os, hb⟩
    rw [HL.out] at hlm os
    have hm15 : m ≤ 15 := by rw [← hlm, ← HL.out]; exact (ptsOf_all s (by omega)).1
    have HO := Lib.hid os; have HB2 := Lib.hid hb; have HLM := Lib.hid hlm
    clear os hb hlm
    go_wp2_with fail
    go_loopw [5, 6] (fun sv iv wr => ∃ (i : Nat) (t : Int), i ≤ m ∧ sv = .int .i64 t ∧ iv = .int .i64 i ∧ Hid (t = sumF L xss i) ∧ Hid (Below w2.heap.size w2 wr)) (fun _ iv _ => m - (intOf iv).toNat)
    case atStart => exact ⟨0, _, Nat.zero_le _, rfl, rfl, rfl, Below.refl _ _⟩
    case round =>
      obtain ⟨i, t, hi, rfl, rfl, hT, hbr⟩ := hrel
      have hz2 := hbr.out.size
      by_cases hlt : i < m
      · obtain ⟨Ai, na, ci, hca, hna, hown, _⟩ := HO.out.at_ HLM.out hlt
        obtain ⟨a, ha⟩ : ∃ a, L.getD i [] = a := ⟨_, rfl⟩
        have hal : a ∈ L := by rw [← ha, List.getD_eq_getElem?_getD, List.getElem?_eq_getElem (by rw [HLM.out]; exact hlt)]; exact List.getElem_mem _
        have hai := HLI.out a hal
        rw [ha] at hown hna
        have hrd := hown.rd hna
        have hca' : wr.cell? ⟨ga, i, none⟩ = some (.slice Ai na ci) := (hbr.out.cell (p := ⟨ga, i, none⟩) (World.block_lt_of_cell? w2 _ hca)).trans hca
        have HRA := Lib.hid (hrd.below hbr.out)
        have HPA := Lib.hid (Pt_of hai.1)
        have HSA := Lib.hid hai.2
        have hdg := (dg_same a HPA.out.all).2.2.2.1
        obtain ⟨dgv, hdv⟩ : ∃ dgv, dg a = dgv := ⟨_, rfl⟩
        have hd0 : ¬ (dgv = 0) := by rw [← hdv]; unfold dg; omega
        obtain ⟨q0, hq0⟩ : ∃ q0, IntKind.i64.wrap (dgv * dgv) = q0 := ⟨_, rfl⟩
        obtain ⟨t', ht'⟩ : ∃ t', IntKind.i64.wrap (t + prdF a xss n) = t' := ⟨_, rfl⟩
        have HDV := Lib.hid hdv; have HQ0 := Lib.hid hq0; have HT' := Lib.hid ht'; have HAA := Lib.hid ha; have HCA := Lib.hid hca
        clear hal hai hown hna hrd hca hdg hdv ht' ha
        go_wp2_with (go_at_call 64; refine (l5Degree_any Ai na ci a _ HRA.out HPA.out).mono ?_; rintro e w3 ⟨rfl, b⟩; have HB3 := Lib.hid b; clear b; rw [HDV.out])
        clear hq0
        have hz3 := HB3.out.size
        go_loopw [8, 9] (fun pv jv wy => ∃ (j : Nat) (p : Int), j ≤ n ∧ pv = .int .i64 p ∧ jv = .int .i64 j ∧ Hid (p = prdF a xss j) ∧ Hid (Below w3.heap.size w3 wy)) (fun _ jv _ => n - (intOf jv).toNat)
        case atStart => exact ⟨0, q0, Nat.zero_le _, rfl, rfl, by rw [Hid, prdF, HDV.out, HQ0.out], Below.refl _ _⟩
        case round =>
          obtain ⟨j, p, hj, rfl, rfl, hP, hbz⟩ := hrel
          have hzz := hbz.out.size
          have HB2z : Hid (Below w2.heap.size w2 wr) := (hbr.out.trans (HB3.out.mono hz2)).trans (hbz.out.mono (by omega))
          by_cases hlj : j < n
          · have H1z := Lib.hid (H1.out.below (HB2.out.trans (HB2z.out.mono HB2.out.size)))
            obtain ⟨ad', Aj, cj', nj, e, hcj, hrj, _⟩ := H1z.out.at_ hlj
            obtain rfl : ad = ad' := by simpa using e
            have hpr := HOK.out.pair (j := j) (by rw [Hx.out]; exact hlj)
            obtain ⟨b, hbb⟩ : ∃ b, row xss j = b := ⟨_, rfl⟩
            have hbb' : xss.getD j [] = b := hbb
            rw [hbb'] at hrj
            rw [hbb] at hpr
            have HPB := Lib.hid hpr.2.1
            have HPR : Hid (PairOk a b) := ⟨HPA.out, HPB.out, by rw [HSA.out, ← HS.out]; exact hpr.2.2⟩
            have HRB := Lib.hid hrj
            have HRA2 := Lib.hid (HRA.out.below (HB3.out.trans (hbz.out.mono hz3)))
            have hca2 : wr.cell? ⟨ga, i, none⟩ = some (.slice Ai na ci) := (HB2z.out.cell (p := ⟨ga, i, none⟩) (World.block_lt_of_cell? w2 _ HCA.out)).trans HCA.out
            have hnj : nj ≤ 1048576 := by have := HPB.out.len; rw [hrj.1] at this; omega
            have qa : ∀ p : AbvN wr, p.to.cell? ⟨ga, i, none⟩ = some (.slice Ai na ci) := fun p => (p.b.cell (p := ⟨ga, i, none⟩) (World.block_lt_of_cell? wr _ hca2)).trans hca2
            have qb : ∀ p : AbvN wr, p.to.cell? (ad.add j) = some (.slice Aj nj cj') := fun p => (p.b.cell (World.block_lt_of_cell? wr _ hcj)).trans hcj
            have HQA : Hid (∀ p : AbvN wr, Rd p.to Ai na a) := fun p => HRA2.out.below p.b
            have HQB : Hid (∀ p : AbvN wr, Rd p.to Aj nj b) := fun p => HRB.out.below p.b
            have HCS : Hid (csR b = cs b) := by rw [Hid, csR, if_pos (pt_true HPB.out)]
            obtain ⟨u, hu⟩ : ∃ u, IntKind.i64.wrap (cs b * chr a b) = u := ⟨_, rfl⟩
            obtain ⟨q, hq⟩ : ∃ q, IntKind.i64.wrap (u.tdiv dgv) = q := ⟨_, rfl⟩
            obtain ⟨p', hp'⟩ : ∃ p', IntKind.i64.wrap (p * q) = p' := ⟨_, rfl⟩
            have HPN : Hid (p' = prdF a xss (j + 1)) := by rw [Hid, prdF, hbb, hu, HDV.out, hq, ← hP.out, hp']
            clear hpr hbb hbb' e hrj hca2 hcj
            go_wp2_with fail
            (refine wp_region_quiet_abvN (by kernel_rfl) (by kernel_rfl) ?_; (repeat (quiet_step (first
              | (go_at_call 65; refine AbvN.calls (spec_csR _ Aj cj' nj b (HQB.out _) hnj HCS.out))
              | (go_at_call 66; refine AbvN.calls (l5Char_any Ai Aj na nj ci cj' a b _ (HQA.out _) (HQB.out _) HPR.out))))); refine wpQuiet_nil ?_; intro _ hw'; obtain ⟨pq, hw''⟩ := hw'; subst hw'')
            go_wp2_with fail
            go_roundw
            case rel => exact ⟨j + 1, p', by omega, rfl, by go_num, HPN, hbz.out.trans (pq.b.mono hzz)⟩
            case measure => simp [intOf]; omega
          · obtain rfl : j = n := by omega
            have hs3 : IntKind.i64.wrap (t + p) = t' := by rw [hP.out]; exact HT'.out
            have HTN : Hid (t' = sumF L xss (i + 1)) := by rw [Hid, sumF, HAA.out, ← hT.out, Hx.out, HT'.out]
            go_wp2_with fail
            go_roundw
            case rel => exact ⟨i + 1, t', by omega, rfl, by go_num, HTN, HB2z⟩
            case measure => simp [intOf]; omega
      · obtain rfl : i = m := by omega
        have hE2 : IntKind.i64.wrap (t.tdiv (fct s)) = r := by rw [hT.out, ← HE.out, HLM.out]
        go_wp2_with (go_at_call 67; refine (l5Times_any s _ (by omega)).mono ?_; rintro e w6 ⟨rfl, rfl⟩)
        go_ret
        exact ⟨rfl, HB1.out.trans ((HB2.out.trans (hbr.out.mono HB2.out.size)).mono HB1.out.size)⟩
  · have hb' : tyB xss = false := by simpa using hb
    have HE : Hid (-1 = r) := by rw [Hid, ← HR.out, fcR, if_neg hb]
    have HB := Lib.hid hb'; clear hb hb'
    go_enter Try.func33, Try.ntmps33
    go_wp2_with fail
    refine (l5Types_any A n c xss w H.out hn HT.out HB.out).mono ?_
    rintro e w1 ⟨rfl, q, rfl⟩
    go_wp2_with fail
    go_ret
    exact ⟨ret_int HE.out, below_drewN (Below.refl _ _) q⟩

end Go.Proofs.Ytkbdbkoeahihiaa
