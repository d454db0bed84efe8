/-
  RibbonTrees, RibbonQuasis: the model's and the program's.
-/
import Derived.Test.YtpaohaodnchfkaaRibB
import Derived.Deep.RegionHeld3
namespace Go.Proofs.Ytpaohaodnchfkaa
open Go.RowKit

theorem asc_in : ∀ m : Nat, m < 7 → ∀ s : Nat, s < 64 → s < 2 ^ m → ascB m (bL s) = true := by decide +kernel
theorem chV_of {t f : List Int} (hm : IsMap t f) {s : Nat} (hs : s < 2 ^ (f.length / 2)) : chV t f (bL s) = true ∧ sOf (bL s) = s ∧ s < 64 := by
  have h6 : f.length / 2 ≤ 6 := by have := hm.flip.2.1; omega
  have h64 := lt_of_pow hs h6
  refine ⟨?_, sOf_eq h64 rfl, h64⟩
  rw [chV, asc_in _ (by omega) s h64 hs, mapV_iff.2 hm]; rfl
noncomputable def ribR (S : List Int → Bool) (t f : List Int) : Int := if mapV t f = true then (cntG S t f (2 ^ (f.length / 2)) : Nat) else -1
noncomputable def ribT (t f : List Int) : Int := ribR treeS t f
noncomputable def ribQ (t f : List Int) : Int := ribR quasiS t f
theorem addr0 (g k : Nat) : (⟨g, 0, none⟩ : Addr).add k = ⟨g, k, none⟩ := by unfold Addr.add; split <;> simp_all

set_option maxHeartbeats 1600000 in
theorem impl_ribT (w : World) (A A' : Option Addr) (n n' c c' : Nat) (t f : List Int) (h : Rd w A n t) (h' : Rd w A' n' f) (hn : n ≤ 1048576) (hn' : n' ≤ 1048576) {r : Int} (hR : ribT t f = r) :
    Calls Try.prog 27 #[.agg #[.slice A n c, .slice A' n' c']] w fun e w' => e = .returned (.int .i64 r) ∧ Below w.heap.size w w' := by
  obtain ⟨W0, hW0, hx, hb, -⟩ := Box.local_ w 28 (.slice A n c) (.slice A' n' c')
  have HX := Lib.hid hx; have HB := Lib.hid hb; have H := Lib.hid h; have H' := Lib.hid h'; clear hx hb h h'
  by_cases hv : mapV t f = true
  · have hm := mapV_iff.1 hv
    obtain rfl : n = n' := hm.same H.out.1 H'.out.1
    have HE : Hid (((cntG treeS t f (2 ^ (n / 2)) : Nat) : Int) = r) := by rw [Hid, ← hR, ribT, ribR, if_pos hv, H'.out.1]
    have HV := Lib.hid hv; have HM := Lib.hid hm; clear hv hm hR
    go_enter Try.func27, Try.ntmps27
    go_wp2_with fail
    refine (valid_lit w.heap.size A A' n n c c' t f W0 HX.out (H.out.below HB.out) (H'.out.below HB.out) hn hn' HV.out).mono ?_
    rintro e w1 ⟨rfl, b⟩
    have HX1 := Lib.hid (HX.out.below b)
    have HB1 := Lib.hid (HB.out.trans (b.mono HB.out.size)); clear b
    go_wp2_with fail
    refine (count_isTree w.heap.size A A' n c c' _ t f w1 HX1.out (H.out.below HB1.out) (H'.out.below HB1.out) HM.out rfl).mono ?_
    rintro e w2 ⟨rfl, b⟩
    have HB2 := Lib.hid (HB1.out.trans (b.mono HB1.out.size)); clear b
    go_wp2_with fail
    go_ret
    exact ⟨ret_int HE.out, HB2.out⟩
  · have hv' : mapV t f = false := by simpa using hv
    obtain rfl : r = -1 := by rw [← hR, ribT, ribR, if_neg hv]
    have HV := Lib.hid hv'; clear hR hv hv'
    go_enter Try.func27, Try.ntmps27
    go_wp2_with fail
    refine (valid_lit w.heap.size A A' n n' c c' t f W0 HX.out (H.out.below HB.out) (H'.out.below HB.out) hn hn' HV.out).mono ?_
    rintro e w1 ⟨rfl, b⟩
    have HB1 := Lib.hid (HB.out.trans (b.mono HB.out.size)); clear b
    go_wp2_with fail
    go_ret
    exact ⟨rfl, HB1.out⟩

set_option maxRecDepth 20000 in
set_option maxHeartbeats 3200000 in
theorem spec_ribT (w : World) (A A' : Option Addr) (n n' c c' : Nat) (t f : List Int) (h : Rd w A n t) (h' : Rd w A' n' f) (hn : n ≤ 1048576) (hn' : n' ≤ 1048576) {r : Int} (hR : ribT t f = r) :
    Calls Try.prog 26 #[.agg #[.slice A n c, .slice A' n' c']] w fun e w' => e = .returned (.int .i64 r) ∧ Below w.heap.size w w' := by
  obtain ⟨W0, hW0, hx, hb, -⟩ := Box.local_ w 28 (.slice A n c) (.slice A' n' c')
  have c0 := hx.cell0
  have c1 := hx.cell1
  have HX := Lib.hid hx; have HB := Lib.hid hb; have H := Lib.hid h; have H' := Lib.hid h'; clear hx hb h h'
  by_cases hv : mapV t f = true
  · have hm := mapV_iff.1 hv
    obtain rfl : n = n' := hm.same H.out.1 H'.out.1
    have hn12 : n ≤ 12 := by rw [← H'.out.1]; exact hm.flip.2.1
    obtain ⟨h2, hh2⟩ : ∃ h2, n / 2 = h2 := ⟨_, rfl⟩
    obtain ⟨N, hN⟩ : ∃ N, 2 ^ h2 = N := ⟨_, rfl⟩
    have hN64 : N ≤ 64 := by rw [← hN]; exact (all_one h2 (by omega)).2.1
    have h26 : h2 ≤ 6 := by omega
    have g2 : (n : Int) / 2 = (h2 : Int) := by omega
    have HE : Hid (((cntG treeS t f N : Nat) : Int) = r) := by rw [Hid, ← hR, ribT, ribR, if_pos hv, H'.out.1, hh2, hN]
    have HCV : Hid (∀ i, i < N → treeCB t f (bL i) = treeS (subL t f i) ∧ i < 64) := fun i hi => by
      obtain ⟨e1, e2, e3⟩ := chV_of hm (s := i) (by rw [H'.out.1, hh2, hN]; exact hi)
      exact ⟨by rw [treeCB, e1, e2, Bool.true_and], e3⟩
    have HV := Lib.hid hv; have HM := Lib.hid hm; have HN := Lib.hid hN; clear hv hm hR hh2 hN
    go_enter Try.func26, Try.ntmps26
    go_wp2_with fail
    refine (spec_mapV W0 A A' n n c c' t f (H.out.below HB.out) (H'.out.below HB.out) hn hn' HV.out).mono ?_
    rintro e w1 ⟨rfl, b⟩
    have hx1 := HX.out.below b
    have d1 := hx1.cell1
    have HB1 := Lib.hid (HB.out.trans (b.mono HB.out.size)); have HX1 := Lib.hid hx1
    clear b c0 c1 hx1
    go_wp2_with fail
    refine (l7All_any h2 w1 h26).mono ?_
    rintro e w2 ⟨g, cc, rfl, o, b⟩
    rw [HN.out]
    rw [HN.out] at o
    have HSS := Lib.hid (o.rd (aL_len N))
    have HB2 := Lib.hid (HB1.out.trans (b.mono HB1.out.size)); have HX2 := Lib.hid (HX1.out.below b)
    clear o b d1
    go_wp2_with fail
    go_loopw [3, 5] (fun qv kv wr => ∃ k q : Nat, k ≤ N ∧ kv = .int .i64 k ∧ qv = .int .i64 q ∧ q ≤ k ∧ Hid (q = cntG treeS t f k) ∧ Hid (Below w2.heap.size w2 wr)) (fun _ kv _ => N - (intOf kv).toNat)
    case atStart => exact ⟨0, 0, Nat.zero_le _, rfl, rfl, Nat.le_refl _, rfl, Below.refl _ _⟩
    case round =>
      obtain ⟨k, q, hk, rfl, rfl, hqk, hq, hb⟩ := hrel
      by_cases hlt : k < N
      · have HBR := Lib.hid (HB2.out.trans (hb.out.mono HB2.out.size))
        have hx := HX2.out.below hb.out
        obtain ⟨e1, e2⟩ := HCV.out k hlt
        obtain ⟨ad, Aj, cj, nj, hAe, hc, hrr, -⟩ := (HSS.out.below hb.out).at_ hlt
        rw [aL_get hlt] at hrr
        have hnj : nj ≤ 6 := by rw [← hrr.1]; exact bL_few k e2
        injection hAe with hAe
        subst hAe
        rw [addr0] at hc
        have c0 := hx.cell0
        have c1 := hx.cell1
        have HGW : Hid (g < wr.heap.size) := World.block_lt_of_cell? wr _ hc
        have HXR := Lib.hid hx; have HRW := Lib.hid hrr; have HC := Lib.hid hc
        obtain ⟨r2, hr2⟩ : ∃ r2, treeS (subL t f k) = r2 := ⟨_, rfl⟩
        have HQ : Hid (cntG treeS t f (k + 1) = q + if r2 = true then 1 else 0) := by rw [Hid, cntG, ← hq.out, hr2]
        have HCB : Hid (treeCB t f (bL k) = r2) := by rw [Hid, e1, hr2]
        have hk0 : (0 : Int) ≤ (k : Int) := by omega
        have hkI : (k : Int) < (N : Int) := by omega
        clear hx hrr hr2 e1 hq
        cases r2 with
        | true =>
          go_wp2_with fail
          go_region_held3 (fun w' => w'.cell? ⟨w.heap.size, 0, none⟩ = some (.slice A n c) ∧ w'.cell? ⟨w.heap.size, 1, none⟩ = some (.slice A' n c') ∧ w'.cell? ⟨g, k, none⟩ = some (.slice Aj nj cj)) (first | go_keep | exact ⟨(HXR.out.below BL.out).cell0, (HXR.out.below BL.out).cell1, (BL.out.cell (p := ⟨g, k, none⟩) HGW.out).trans HC.out⟩) (first
            | (go_at_call 22; refine (spec_treeCB _ A A' n n c c' t f ((H.out.below HBR.out).drewN _) ((H'.out.below HBR.out).drewN _) hn hn' Aj cj nj (bL k) (HRW.out.drewN _) (by omega) HCB.out).mono ?_; rintro e w3 ⟨rfl, bl⟩; have BL := Lib.hid (Below.of_drewN bl); clear bl))
          go_wp2
          go_roundw
          case rel => exact ⟨k + 1, q + 1, by omega, by go_num, by go_num, by omega, by rw [Hid, HQ.out]; simp, hb.out.trans (BL.out.mono hb.out.size)⟩
          case measure => simp [intOf]; omega
        | false =>
          go_wp2_with fail
          go_region_held3 (fun w' => w'.cell? ⟨w.heap.size, 0, none⟩ = some (.slice A n c) ∧ w'.cell? ⟨w.heap.size, 1, none⟩ = some (.slice A' n c') ∧ w'.cell? ⟨g, k, none⟩ = some (.slice Aj nj cj)) (first | go_keep | exact ⟨(HXR.out.below BL.out).cell0, (HXR.out.below BL.out).cell1, (BL.out.cell (p := ⟨g, k, none⟩) HGW.out).trans HC.out⟩) (first
            | (go_at_call 22; refine (spec_treeCB _ A A' n n c c' t f ((H.out.below HBR.out).drewN _) ((H'.out.below HBR.out).drewN _) hn hn' Aj cj nj (bL k) (HRW.out.drewN _) (by omega) HCB.out).mono ?_; rintro e w3 ⟨rfl, bl⟩; have BL := Lib.hid (Below.of_drewN bl); clear bl))
          go_wp2
          go_roundw
          case rel => exact ⟨k + 1, q, by omega, by go_num, by rfl, by omega, by rw [Hid, HQ.out]; simp, hb.out.trans (BL.out.mono hb.out.size)⟩
          case measure => simp [intOf]; omega
      · have hkN : k = N := by omega
        have HE2 : Hid ((q : Int) = r) := by rw [Hid, ← HE.out, ← hkN, hq.out]
        clear hkN hq
        go_wp2_with fail
        go_ret
        exact ⟨ret_int HE2.out, HB2.out.trans (hb.out.mono HB2.out.size)⟩
  · have hv' : mapV t f = false := by simpa using hv
    obtain rfl : r = -1 := by rw [← hR, ribT, ribR, if_neg hv]
    have HV := Lib.hid hv'; clear hR hv hv'
    go_enter Try.func26, Try.ntmps26
    go_wp2_with fail
    refine (spec_mapV W0 A A' n n' c c' t f (H.out.below HB.out) (H'.out.below HB.out) hn hn' HV.out).mono ?_
    rintro e w1 ⟨rfl, b⟩
    have HB1 := Lib.hid (HB.out.trans (b.mono HB.out.size)); clear b
    go_wp2_with fail
    go_ret
    exact ⟨rfl, HB1.out⟩

set_option maxHeartbeats 1600000 in
theorem impl_ribQ (w : World) (A A' : Option Addr) (n n' c c' : Nat) (t f : List Int) (h : Rd w A n t) (h' : Rd w A' n' f) (hn : n ≤ 1048576) (hn' : n' ≤ 1048576) {r : Int} (hR : ribQ t f = r) :
    Calls Try.prog 29 #[.agg #[.slice A n c, .slice A' n' c']] w fun e w' => e = .returned (.int .i64 r) ∧ Below w.heap.size w w' := by
  obtain ⟨W0, hW0, hx, hb, -⟩ := Box.local_ w 28 (.slice A n c) (.slice A' n' c')
  have HX := Lib.hid hx; have HB := Lib.hid hb; have H := Lib.hid h; have H' := Lib.hid h'; clear hx hb h h'
  by_cases hv : mapV t f = true
  · have hm := mapV_iff.1 hv
    obtain rfl : n = n' := hm.same H.out.1 H'.out.1
    have HE : Hid (((cntG quasiS t f (2 ^ (n / 2)) : Nat) : Int) = r) := by rw [Hid, ← hR, ribQ, ribR, if_pos hv, H'.out.1]
    have HV := Lib.hid hv; have HM := Lib.hid hm; clear hv hm hR
    go_enter Try.func29, Try.ntmps29
    go_wp2_with fail
    refine (valid_lit w.heap.size A A' n n c c' t f W0 HX.out (H.out.below HB.out) (H'.out.below HB.out) hn hn' HV.out).mono ?_
    rintro e w1 ⟨rfl, b⟩
    have HX1 := Lib.hid (HX.out.below b)
    have HB1 := Lib.hid (HB.out.trans (b.mono HB.out.size)); clear b
    go_wp2_with fail
    refine (count_isQuasi w.heap.size A A' n c c' _ t f w1 HX1.out (H.out.below HB1.out) (H'.out.below HB1.out) HM.out rfl).mono ?_
    rintro e w2 ⟨rfl, b⟩
    have HB2 := Lib.hid (HB1.out.trans (b.mono HB1.out.size)); clear b
    go_wp2_with fail
    go_ret
    exact ⟨ret_int HE.out, HB2.out⟩
  · have hv' : mapV t f = false := by simpa using hv
    obtain rfl : r = -1 := by rw [← hR, ribQ, ribR, if_neg hv]
    have HV := Lib.hid hv'; clear hR hv hv'
    go_enter Try.func29, Try.ntmps29
    go_wp2_with fail
    refine (valid_lit w.heap.size A A' n n' c c' t f W0 HX.out (H.out.below HB.out) (H'.out.below HB.out) hn hn' HV.out).mono ?_
    rintro e w1 ⟨rfl, b⟩
    have HB1 := Lib.hid (HB.out.trans (b.mono HB.out.size)); clear b
    go_wp2_with fail
    go_ret
    exact ⟨rfl, HB1.out⟩

set_option maxRecDepth 20000 in
set_option maxHeartbeats 3200000 in
theorem spec_ribQ (w : World) (A A' : Option Addr) (n n' c c' : Nat) (t f : List Int) (h : Rd w A n t) (h' : Rd w A' n' f) (hn : n ≤ 1048576) (hn' : n' ≤ 1048576) {r : Int} (hR : ribQ t f = r) :
    Calls Try.prog 28 #[.agg #[.slice A n c, .slice A' n' c']] w fun e w' => e = .returned (.int .i64 r) ∧ Below w.heap.size w w' := by
  obtain ⟨W0, hW0, hx, hb, -⟩ := Box.local_ w 28 (.slice A n c) (.slice A' n' c')
  have c0 := hx.cell0
  have c1 := hx.cell1
  have HX := Lib.hid hx; have HB := Lib.hid hb; have H := Lib.hid h; have H' := Lib.hid h'; clear hx hb h h'
  by_cases hv : mapV t f = true
  · have hm := mapV_iff.1 hv
    obtain rfl : n = n' := hm.same H.out.1 H'.out.1
    have hn12 : n ≤ 12 := by rw [← H'.out.1]; exact hm.flip.2.1
    obtain ⟨h2, hh2⟩ : ∃ h2, n / 2 = h2 := ⟨_, rfl⟩
    obtain ⟨N, hN⟩ : ∃ N, 2 ^ h2 = N := ⟨_, rfl⟩
    have hN64 : N ≤ 64 := by rw [← hN]; exact (all_one h2 (by omega)).2.1
    have h26 : h2 ≤ 6 := by omega
    have g2 : (n : Int) / 2 = (h2 : Int) := by omega
    have HE : Hid (((cntG quasiS t f N : Nat) : Int) = r) := by rw [Hid, ← hR, ribQ, ribR, if_pos hv, H'.out.1, hh2, hN]
    have HCV : Hid (∀ i, i < N → quasiCB t f (bL i) = quasiS (subL t f i) ∧ i < 64) := fun i hi => by
      obtain ⟨e1, e2, e3⟩ := chV_of hm (s := i) (by rw [H'.out.1, hh2, hN]; exact hi)
      exact ⟨by rw [quasiCB, e1, e2, Bool.true_and], e3⟩
    have HV := Lib.hid hv; have HM := Lib.hid hm; have HN := Lib.hid hN; clear hv hm hR hh2 hN
    go_enter Try.func28, Try.ntmps28
    go_wp2_with fail
    refine (spec_mapV W0 A A' n n c c' t f (H.out.below HB.out) (H'.out.below HB.out) hn hn' HV.out).mono ?_
    rintro e w1 ⟨rfl, b⟩
    have hx1 := HX.out.below b
    have d1 := hx1.cell1
    have HB1 := Lib.hid (HB.out.trans (b.mono HB.out.size)); have HX1 := Lib.hid hx1
    clear b c0 c1 hx1
    go_wp2_with fail
    refine (l7All_any h2 w1 h26).mono ?_
    rintro e w2 ⟨g, cc, rfl, o, b⟩
    rw [HN.out]
    rw [HN.out] at o
    have HSS := Lib.hid (o.rd (aL_len N))
    have HB2 := Lib.hid (HB1.out.trans (b.mono HB1.out.size)); have HX2 := Lib.hid (HX1.out.below b)
    clear o b d1
    go_wp2_with fail
    go_loopw [3, 5] (fun qv kv wr => ∃ k q : Nat, k ≤ N ∧ kv = .int .i64 k ∧ qv = .int .i64 q ∧ q ≤ k ∧ Hid (q = cntG quasiS t f k) ∧ Hid (Below w2.heap.size w2 wr)) (fun _ kv _ => N - (intOf kv).toNat)
    case atStart => exact ⟨0, 0, Nat.zero_le _, rfl, rfl, Nat.le_refl _, rfl, Below.refl _ _⟩
    case round =>
      obtain ⟨k, q, hk, rfl, rfl, hqk, hq, hb⟩ := hrel
      by_cases hlt : k < N
      · have HBR := Lib.hid (HB2.out.trans (hb.out.mono HB2.out.size))
        have hx := HX2.out.below hb.out
        obtain ⟨e1, e2⟩ := HCV.out k hlt
        obtain ⟨ad, Aj, cj, nj, hAe, hc, hrr, -⟩ := (HSS.out.below hb.out).at_ hlt
        rw [aL_get hlt] at hrr
        have hnj : nj ≤ 6 := by rw [← hrr.1]; exact bL_few k e2
        injection hAe with hAe
        subst hAe
        rw [addr0] at hc
        have c0 := hx.cell0
        have c1 := hx.cell1
        have HGW : Hid (g < wr.heap.size) := World.block_lt_of_cell? wr _ hc
        have HXR := Lib.hid hx; have HRW := Lib.hid hrr; have HC := Lib.hid hc
        obtain ⟨r2, hr2⟩ : ∃ r2, quasiS (subL t f k) = r2 := ⟨_, rfl⟩
        have HQ : Hid (cntG quasiS t f (k + 1) = q + if r2 = true then 1 else 0) := by rw [Hid, cntG, ← hq.out, hr2]
        have HCB : Hid (quasiCB t f (bL k) = r2) := by rw [Hid, e1, hr2]
        have hk0 : (0 : Int) ≤ (k : Int) := by omega
        have hkI : (k : Int) < (N : Int) := by omega
        clear hx hrr hr2 e1 hq
        cases r2 with
        | true =>
          go_wp2_with fail
          go_region_held3 (fun w' => w'.cell? ⟨w.heap.size, 0, none⟩ = some (.slice A n c) ∧ w'.cell? ⟨w.heap.size, 1, none⟩ = some (.slice A' n c') ∧ w'.cell? ⟨g, k, none⟩ = some (.slice Aj nj cj)) (first | go_keep | exact ⟨(HXR.out.below BL.out).cell0, (HXR.out.below BL.out).cell1, (BL.out.cell (p := ⟨g, k, none⟩) HGW.out).trans HC.out⟩) (first
            | (go_at_call 24; refine (spec_quasiCB _ A A' n n c c' t f ((H.out.below HBR.out).drewN _) ((H'.out.below HBR.out).drewN _) hn hn' Aj cj nj (bL k) (HRW.out.drewN _) (by omega) HCB.out).mono ?_; rintro e w3 ⟨rfl, bl⟩; have BL := Lib.hid (Below.of_drewN bl); clear bl))
          go_wp2
          go_roundw
          case rel => exact ⟨k + 1, q + 1, by omega, by go_num, by go_num, by omega, by rw [Hid, HQ.out]; simp, hb.out.trans (BL.out.mono hb.out.size)⟩
          case measure => simp [intOf]; omega
        | false =>
          go_wp2_with fail
          go_region_held3 (fun w' => w'.cell? ⟨w.heap.size, 0, none⟩ = some (.slice A n c) ∧ w'.cell? ⟨w.heap.size, 1, none⟩ = some (.slice A' n c') ∧ w'.cell? ⟨g, k, none⟩ = some (.slice Aj nj cj)) (first | go_keep | exact ⟨(HXR.out.below BL.out).cell0, (HXR.out.below BL.out).cell1, (BL.out.cell (p := ⟨g, k, none⟩) HGW.out).trans HC.out⟩) (first
            | (go_at_call 24; refine (spec_quasiCB _ A A' n n c c' t f ((H.out.below HBR.out).drewN _) ((H'.out.below HBR.out).drewN _) hn hn' Aj cj nj (bL k) (HRW.out.drewN _) (by omega) HCB.out).mono ?_; rintro e w3 ⟨rfl, bl⟩; have BL := Lib.hid (Below.of_drewN bl); clear bl))
          go_wp2
          go_roundw
          case rel => exact ⟨k + 1, q, by omega, by go_num, by rfl, by omega, by rw [Hid, HQ.out]; simp, hb.out.trans (BL.out.mono hb.out.size)⟩
          case measure => simp [intOf]; omega
      · have hkN : k = N := by omega
        have HE2 : Hid ((q : Int) = r) := by rw [Hid, ← HE.out, ← hkN, hq.out]
        clear hkN hq
        go_wp2_with fail
        go_ret
        exact ⟨ret_int HE2.out, HB2.out.trans (hb.out.mono HB2.out.size)⟩
  · have hv' : mapV t f = false := by simpa using hv
    obtain rfl : r = -1 := by rw [← hR, ribQ, ribR, if_neg hv]
    have HV := Lib.hid hv'; clear hR hv hv'
    go_enter Try.func28, Try.ntmps28
    go_wp2_with fail
    refine (spec_mapV W0 A A' n n' c c' t f (H.out.below HB.out) (H'.out.below HB.out) hn hn' HV.out).mono ?_
    rintro e w1 ⟨rfl, b⟩
    have HB1 := Lib.hid (HB.out.trans (b.mono HB.out.size)); clear b
    go_wp2_with fail
    go_ret
    exact ⟨rfl, HB1.out⟩

end Go.Proofs.Ytpaohaodnchfkaa
