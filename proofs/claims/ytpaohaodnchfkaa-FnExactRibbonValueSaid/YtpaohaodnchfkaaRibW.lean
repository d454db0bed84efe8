/-
  RibbonValue: powers, the sum over all choices; the model's and the program's.
-/
import Derived.Test.YtpaohaodnchfkaaRibT
import Derived.Deep.RegionHeld3
namespace Go.Proofs.Ytpaohaodnchfkaa
open Go.RowKit

theorem wr64 (n : Int) : IntKind.i64.wrap n = wrap64 n := by rw [IntKind.wrap_i64, wrap64]
theorem tdiv2_small {a : Int} (h : -60 ≤ a ∧ a ≤ 60) : -60 ≤ a.tdiv 2 ∧ a.tdiv 2 ≤ 60 := by
  rcases Int.le_total 0 a with h0 | h0
  · rw [Int.tdiv_eq_ediv_of_nonneg h0]; omega
  · have e : a.tdiv 2 = -((-a).tdiv 2) := by rw [Int.neg_tdiv, Int.neg_neg]
    rw [e, Int.tdiv_eq_ediv_of_nonneg (show 0 ≤ -a by omega)]
    omega
theorem run_min_3 {P : Program} (w : World) (ts : Array TypeId) (t : TypeId) (k k' k'' : IntKind) (x y z : Int) : (Builtin.min_ ts t #[.int k x, .int k' y, .int k'' z]).run P w = .ok (.int k (min (min x y) z)) w := by
  have e1 : (if y < x then y else x) = min x y := by rw [Int.min_def]; split <;> split <;> omega
  have e2 : ∀ a : Int, (if z < a then z else a) = min a z := fun a => by rw [Int.min_def]; split <;> split <;> omega
  simp [Builtin.min_, Builtin.min2, e1, e2]
theorem run_max_3 {P : Program} (w : World) (ts : Array TypeId) (t : TypeId) (k k' k'' : IntKind) (x y z : Int) : (Builtin.max_ ts t #[.int k x, .int k' y, .int k'' z]).run P w = .ok (.int k (max (max x y) z)) w := by
  have e1 : (if y > x then y else x) = max x y := by rw [Int.max_def]; split <;> split <;> omega
  have e2 : ∀ a : Int, (if z > a then z else a) = max a z := fun a => by rw [Int.max_def]; split <;> split <;> omega
  simp [Builtin.max_, Builtin.max2, e1, e2]
attribute [local go_sem high] run_min_3 run_max_3
def pwW (x : Int) : Nat → Int
  | 0 => 1
  | k + 1 => IntKind.i64.wrap (pwW x k * x)

set_option maxHeartbeats 800000 in
theorem power_any (x k : Int) (w : World) (h0 : -1000 ≤ k) (h1 : k ≤ 1000) {r : Int} (hr : pwW x k.toNat = r) :
    Calls Try.prog 53 #[.int .i64 x, .int .i64 k] w fun e w' => e = .returned (.int .i64 r) ∧ w = w' := by
  obtain ⟨K, hK⟩ : ∃ K, k.toNat = K := ⟨_, rfl⟩
  rw [hK] at hr
  have HR := Lib.hid hr; have HK := Lib.hid hK
  have hK1 : k ≤ (K : Int) := by omega
  have hK2 : (K : Int) ≤ 1000 := by omega
  clear hr hK
  go_enter Try.func53, Try.ntmps53
  go_wp2_with fail
  go_loop [5, 7] (fun pv iv => ∃ (j : Nat) (p : Int), j ≤ K ∧ iv = .int .i64 j ∧ pv = .int .i64 p ∧ Hid (pwW x j = p)) (fun _ iv => K - (intOf iv).toNat)
  case atStart => exact ⟨0, 1, Nat.zero_le _, rfl, rfl, rfl⟩
  case round =>
    obtain ⟨j, p, hj, rfl, rfl, hp⟩ := hrel
    by_cases hlt : (j : Int) < k
    · have hjK : j < K := by have := HK.out; omega
      go_wp2_with fail
      go_round
      case rel => exact ⟨j + 1, wrap64 (p * x), by omega, by go_num, rfl, by rw [Hid, pwW, hp.out, wr64]⟩
      case measure => simp [intOf]; omega
    · have hjK : j = K := by have := HK.out; omega
      have HE : Hid (p = r) := by rw [Hid, ← HR.out, ← hjK]; exact hp.out.symm
      clear hjK
      go_wp2_with fail
      go_ret
      exact ⟨ret_int HE.out, rfl⟩

set_option maxHeartbeats 800000 in
theorem l7Power_any (x k : Int) (w : World) (h0 : -1000 ≤ k) (h1 : k ≤ 1000) {r : Int} (hr : pwW x k.toNat = r) :
    Calls Try.prog 51 #[.int .i64 x, .int .i64 k] w fun e w' => e = .returned (.int .i64 r) ∧ w = w' := by
  obtain ⟨K, hK⟩ : ∃ K, k.toNat = K := ⟨_, rfl⟩
  rw [hK] at hr
  have HR := Lib.hid hr; have HK := Lib.hid hK
  have hK1 : k ≤ (K : Int) := by omega
  have hK2 : (K : Int) ≤ 1000 := by omega
  clear hr hK
  go_enter Try.func51, Try.ntmps51
  go_wp2_with fail
  go_loop [5, 6] (fun pv iv => ∃ (j : Nat) (p : Int), j ≤ K ∧ iv = .int .i64 j ∧ pv = .int .i64 p ∧ Hid (pwW x j = p)) (fun _ iv => K - (intOf iv).toNat)
  case atStart => exact ⟨0, 1, Nat.zero_le _, rfl, rfl, rfl⟩
  case round =>
    obtain ⟨j, p, hj, rfl, rfl, hp⟩ := hrel
    by_cases hlt : (j : Int) < k
    · have hjK : j < K := by have := HK.out; omega
      go_wp2_with fail
      go_round
      case rel => exact ⟨j + 1, wrap64 (p * x), by omega, by go_num, by rw [Int.mul_comm], by rw [Hid, pwW, hp.out, wr64]⟩
      case measure => simp [intOf]; omega
    · have hjK : j = K := by have := HK.out; omega
      have HE : Hid (p = r) := by rw [Hid, ← HR.out, ← hjK]; exact hp.out.symm
      clear hjK
      go_wp2_with fail
      go_ret
      exact ⟨ret_int HE.out, rfl⟩

/-- What a choice adds to the value, and the sum of the first k. -/
def termV (x y z : Int) (xs : List Int) : Int := IntKind.i64.wrap (IntKind.i64.wrap (pwW x (gi xs 0 - 1).toNat * pwW y (gi xs 3).toNat) * pwW z (gi xs 4).toNat)
noncomputable def sumV (x y z : Int) (t f : List Int) : Nat → Int
  | 0 => 0
  | k + 1 => IntKind.i64.wrap (sumV x y z t f k + termV x y z (subL t f k))
def in3 (x y z : Int) : Bool := inB x 0 3 && (inB y 0 3 && inB z 0 3)
noncomputable def valR (t f : List Int) (x y z : Int) : Int := if mapV t f = true ∧ in3 x y z = true then sumV x y z t f (2 ^ (f.length / 2)) else -1
/-- The five numbers are small. -/
theorem sub_small {t f : List Int} (hm : IsMap t f) {s : Nat} (hs : s < 64) {x0 x1 x2 x3 x4 : Int} (h : subL t f s = [x0, x1, x2, x3, x4]) : (0 ≤ x0 ∧ x0 ≤ 12) ∧ (-100 ≤ x3 ∧ x3 ≤ 100) ∧ (-100 ≤ x4 ∧ x4 ≤ 100) := by
  have hp12 : ptsN t f s ≤ 12 := by have := fixN_le (orbL t (flipS f s)) t.length; have := hm.turn.2.1; unfold ptsN; omega
  have hsd12 : sidN t f s ≤ 12 := by have := cyclesL_len (p := sidL t f s); have := sidL_len t f s; have := hm.flip.2.1; unfold sidN; omega
  have hv12 : cntV t ≤ 12 := by have := cyclesL_len (p := t); have := hm.turn.2.1; unfold cntV; omega
  have hl6 := bL_few s hs
  simp only [subL, subI, List.cons.injEq, and_true] at h
  obtain ⟨rfl, rfl, rfl, rfl, rfl⟩ := h
  have := tdiv2_small (a := 2 * (ptsN t f s : Int) - (cntV t : Int) + ((bL s).length : Int) - (sidN t f s : Int)) (by omega)
  exact ⟨⟨by omega, by omega⟩, ⟨by omega, by omega⟩, by omega, by omega⟩

set_option maxRecDepth 20000 in
set_option maxHeartbeats 3200000 in
theorem impl_valR (w : World) (A A' : Option Addr) (n n' c c' : Nat) (t f : List Int) (h : Rd w A n t) (h' : Rd w A' n' f) (hn : n ≤ 1048576) (hn' : n' ≤ 1048576) (x : Int) (_hw : (Lit.int .i64 x).wf = true) (y : Int) (_hwy : (Lit.int .i64 y).wf = true) (z : Int) (_hwz : (Lit.int .i64 z).wf = true) {r : Int} (hR : valR t f x y z = r) :
    Calls Try.prog 31 #[.agg #[.slice A n c, .slice A' n' c'], .int .i64 x, .int .i64 y, .int .i64 z] w fun e w' => e = .returned (.int .i64 r) ∧ Below w.heap.size w w' := by
  obtain ⟨W0, hW0, hx, hb, -⟩ := Box.local_ w 28 (.slice A n c) (.slice A' n' c')
  have HX := Lib.hid hx; have HB := Lib.hid hb; have H := Lib.hid h; have H' := Lib.hid h'; clear hx hb h h'
  by_cases hv : mapV t f = true
  · have hm := mapV_iff.1 hv
    obtain rfl : n = n' := hm.same H.out.1 H'.out.1
    have hn12 : n ≤ 12 := by rw [← H'.out.1]; exact hm.flip.2.1
    by_cases h3 : in3 x y z = true
    · have hxyz : (0 ≤ x ∧ x ≤ 3) ∧ (0 ≤ y ∧ y ≤ 3) ∧ (0 ≤ z ∧ z ≤ 3) := by simpa [in3, inB] using h3
      obtain ⟨⟨x0, x1⟩, ⟨y0, y1⟩, z0, z1⟩ := hxyz
      obtain ⟨N, hN⟩ : ∃ N, 2 ^ (n / 2) = N := ⟨_, rfl⟩
      have hN64 : N ≤ 64 := by rw [← hN]; exact (all_one (n / 2) (by omega)).2.1
      have HE : Hid (sumV x y z t f N = r) := by rw [Hid, ← hR, valR, if_pos ⟨hv, h3⟩, H'.out.1, hN]
      have HV := Lib.hid hv; have HM := Lib.hid hm; have HN := Lib.hid hN; clear hv hm hR hN h3
      obtain ⟨mn, hmn⟩ : ∃ mn, min (min x y) z = mn := ⟨_, rfl⟩
      obtain ⟨mx, hmx⟩ : ∃ mx, max (max x y) z = mx := ⟨_, rfl⟩
      have hmn0 : 0 ≤ mn := by omega
      have hmx3 : mx ≤ 3 := by omega
      go_enter Try.func31, Try.ntmps31
      go_wp2_with fail
      refine (valid_lit w.heap.size A A' n n c c' t f W0 HX.out (H.out.below HB.out) (H'.out.below HB.out) hn hn' HV.out).mono ?_
      rintro e w1 ⟨rfl, b⟩
      have HX1 := Lib.hid (HX.out.below b)
      have HB1 := Lib.hid (HB.out.trans (b.mono HB.out.size)); clear b
      go_wp2_with fail
      refine (subgraphs_any w.heap.size A A' n c c' N t f w1 HX1.out (H.out.below HB1.out) (H'.out.below HB1.out) HM.out HN.out).mono ?_
      rintro e w2 ⟨g, cc, rfl, hs, b2⟩
      have HS := Lib.hid hs; have HB2 := Lib.hid (HB1.out.trans (b2.mono HB1.out.size)); clear hs b2 hmn hmx hmn0 hmx3
      go_wp2_with fail
      go_loopw [9, 11, 30] (fun qv _ kv wr => ∃ (k : Nat) (q : Int), k ≤ N ∧ kv = .int .i64 k ∧ qv = .int .i64 q ∧ Hid (sumV x y z t f k = q) ∧ Hid (Below w2.heap.size w2 wr)) (fun _ _ kv _ => N - (intOf kv).toNat)
      case atStart => exact ⟨0, 0, Nat.zero_le _, rfl, rfl, rfl, Below.refl _ _⟩
      case round =>
        obtain ⟨k, q, hk, rfl, rfl, hq, hb⟩ := hrel
        by_cases hlt : k < N
        · obtain ⟨v0, v1, v2, v3, v4, h5⟩ := subL_five t f k
          obtain ⟨c0, c1, c2, c3, c4⟩ := (HS.out.below hb.out).five hlt h5
          obtain ⟨⟨p0, p1⟩, ⟨p2, p3⟩, p4, p5⟩ := sub_small HM.out (by omega) h5
          have HBA : Hid (Below w2.heap.size w2 (wr.alloc (.cells #[.int .i64 v0, .int .i64 v1, .int .i64 v2, .int .i64 v3, .int .i64 v4] 50))) := hb.out.alloc hb.out.size _
          have g1 : IntKind.i64.wrap (v0 - 1) = v0 - 1 := IntWalk.i64_in _ (by omega)
          have HQ : Hid (sumV x y z t f (k + 1) = IntKind.i64.wrap (q + IntKind.i64.wrap (IntKind.i64.wrap (pwW x (v0 - 1).toNat * pwW y v3.toNat) * pwW z v4.toNat))) := by rw [Hid, sumV, hq.out, h5]; rfl
          clear h5 hq
          go_wp2_with fail
          go_quiet ((go_at_call 53; exact (power_any _ _ _ (by omega) (by omega) rfl).mono fun e w' h => ⟨h.1, _, h.2.symm⟩))
          go_wp2_with fail
          go_roundw
          case rel => exact ⟨k + 1, _, by omega, by go_num, rfl, (by have h := HQ.out; simp only [wr64] at h; rwa [show (v0 - 1).toNat = v0.toNat - 1 by omega] at h), below_drewN HBA.out _⟩
          case measure => simp [intOf]; omega
        · have hkN : k = N := by omega
          have HE2 : Hid (q = r) := by rw [Hid, ← HE.out, ← hkN]; exact hq.out.symm
          clear hkN
          go_wp2_with fail
          go_ret
          exact ⟨ret_int HE2.out, HB2.out.trans (hb.out.mono HB2.out.size)⟩
    · have hr1 : r = -1 := by rw [← hR, valR, if_neg (fun h => h3 h.2)]
      subst hr1
      have hx3 : ¬ ((0 ≤ x ∧ x ≤ 3) ∧ (0 ≤ y ∧ y ≤ 3) ∧ (0 ≤ z ∧ z ≤ 3)) := fun hh => h3 (by simpa [in3, inB] using hh)
      have HV := Lib.hid hv; clear hv hm hR h3
      obtain ⟨mn, hmn⟩ : ∃ mn, min (min x y) z = mn := ⟨_, rfl⟩
      obtain ⟨mx, hmx⟩ : ∃ mx, max (max x y) z = mx := ⟨_, rfl⟩
      by_cases h0 : mn < 0
      · clear hx3
        go_enter Try.func31, Try.ntmps31
        go_wp2_with fail
        refine (valid_lit w.heap.size A A' n n c c' t f W0 HX.out (H.out.below HB.out) (H'.out.below HB.out) hn hn' HV.out).mono ?_
        rintro e w1 ⟨rfl, b⟩
        have HB1 := Lib.hid (HB.out.trans (b.mono HB.out.size)); clear b
        go_wp2_with fail
        go_ret
        exact ⟨rfl, HB1.out⟩
      · have h4 : 3 < mx := by omega
        have h0' : decide (mn < 0) = false := by simpa using h0
        clear hx3 h0
        go_enter Try.func31, Try.ntmps31
        go_wp2_with fail
        refine (valid_lit w.heap.size A A' n n c c' t f W0 HX.out (H.out.below HB.out) (H'.out.below HB.out) hn hn' HV.out).mono ?_
        rintro e w1 ⟨rfl, b⟩
        have HB1 := Lib.hid (HB.out.trans (b.mono HB.out.size)); clear b
        go_wp2_with fail
        go_ret
        exact ⟨rfl, HB1.out⟩
  · have hv' : mapV t f = false := by simpa using hv
    obtain rfl : r = -1 := by rw [← hR, valR, if_neg (fun h => hv h.1)]
    have HV := Lib.hid hv'; clear hR hv hv'
    go_enter Try.func31, Try.ntmps31
    go_wp2_with fail
    refine (valid_lit w.heap.size A A' n n' c c' t f W0 HX.out (H.out.below HB.out) (H'.out.below HB.out) hn hn' HV.out).mono ?_
    rintro e w1 ⟨rfl, b⟩
    have HB1 := Lib.hid (HB.out.trans (b.mono HB.out.size)); clear b
    go_wp2_with fail
    go_ret
    exact ⟨rfl, HB1.out⟩

set_option maxRecDepth 20000 in
set_option maxHeartbeats 3200000 in
theorem spec_valR (w : World) (A A' : Option Addr) (n n' c c' : Nat) (t f : List Int) (h : Rd w A n t) (h' : Rd w A' n' f) (hn : n ≤ 1048576) (hn' : n' ≤ 1048576) (x : Int) (_hw : (Lit.int .i64 x).wf = true) (y : Int) (_hwy : (Lit.int .i64 y).wf = true) (z : Int) (_hwz : (Lit.int .i64 z).wf = true) {r : Int} (hR : valR t f x y z = r) :
    Calls Try.prog 30 #[.agg #[.slice A n c, .slice A' n' c'], .int .i64 x, .int .i64 y, .int .i64 z] w fun e w' => e = .returned (.int .i64 r) ∧ Below w.heap.size w w' := by
  obtain ⟨W0, hW0, hx, hb, -⟩ := Box.local_ w 28 (.slice A n c) (.slice A' n' c')
  have c0 := hx.cell0
  have c1 := hx.cell1
  have HX := Lib.hid hx; have HB := Lib.hid hb; have H := Lib.hid h; have H' := Lib.hid h'; clear hx hb h h'
  obtain ⟨bx, hbx⟩ : ∃ bx, inB x 0 3 = bx := ⟨_, rfl⟩
  obtain ⟨by', hby⟩ : ∃ by', inB y 0 3 = by' := ⟨_, rfl⟩
  obtain ⟨bz, hbz⟩ : ∃ bz, inB z 0 3 = bz := ⟨_, rfl⟩
  by_cases hv : mapV t f = true
  · have hm := mapV_iff.1 hv
    obtain rfl : n = n' := hm.same H.out.1 H'.out.1
    have hn12 : n ≤ 12 := by rw [← H'.out.1]; exact hm.flip.2.1
    by_cases h3 : in3 x y z = true
    · obtain ⟨rfl, rfl, rfl⟩ : bx = true ∧ by' = true ∧ bz = true := by
        rw [in3, hbx, hby, hbz] at h3; simpa using h3
      obtain ⟨h2, hh2⟩ : ∃ h2, n / 2 = h2 := ⟨_, rfl⟩
      obtain ⟨N, hN⟩ : ∃ N, 2 ^ h2 = N := ⟨_, rfl⟩
      have hN64 : N ≤ 64 := by rw [← hN]; exact (all_one h2 (by omega)).2.1
      have h26 : h2 ≤ 6 := by omega
      have g2 : (n : Int) / 2 = (h2 : Int) := by omega
      have HE : Hid (sumV x y z t f N = r) := by rw [Hid, ← hR, valR, if_pos ⟨hv, h3⟩, H'.out.1, hh2, hN]
      have HCV : Hid (∀ i, i < N → i < 2 ^ (f.length / 2) ∧ i < 64) := fun i hi => ⟨by rw [H'.out.1, hh2, hN]; exact hi, by omega⟩
      have HV := Lib.hid hv; have HM := Lib.hid hm; have HN := Lib.hid hN; have HBX := Lib.hid hbx; have HBY := Lib.hid hby; have HBZ := Lib.hid hbz; clear hv hm hR hN h3 hh2 hbx hby hbz
      go_enter Try.func30, Try.ntmps30
      go_wp2_with fail
      refine (spec_mapV W0 A A' n n c c' t f (H.out.below HB.out) (H'.out.below HB.out) hn hn' HV.out).mono ?_
      rintro e w1 ⟨rfl, b⟩
      have hx1 := HX.out.below b
      have d1 := hx1.cell1
      have HB1 := Lib.hid (HB.out.trans (b.mono HB.out.size)); have HX1 := Lib.hid hx1
      clear b c0 c1 hx1
      go_wp2_with fail
      refine (in_any x 0 3 w1).mono ?_
      rintro e w2 ⟨rfl, rfl⟩
      rw [HBX.out]
      go_wp2_with fail
      refine (in_any y 0 3 w1).mono ?_
      rintro e w2 ⟨rfl, rfl⟩
      rw [HBY.out]
      go_wp2_with fail
      refine (in_any z 0 3 w1).mono ?_
      rintro e w2 ⟨rfl, rfl⟩
      rw [HBZ.out]
      go_wp2_with fail
      refine (l7All_any h2 w1 h26).mono ?_
      rintro e w2 ⟨g, cc, rfl, o, b⟩
      rw [HN.out]
      rw [HN.out] at o
      have HSS := Lib.hid (o.rd (aL_len N))
      have HB2 := Lib.hid (HB1.out.trans (b.mono HB1.out.size)); have HX2 := Lib.hid (HX1.out.below b)
      clear o b d1
      go_wp2_with fail
      go_loopw [9, 11, 12] (fun qv kv _ wr => ∃ (k : Nat) (q : Int), k ≤ N ∧ kv = .int .i64 k ∧ qv = .int .i64 q ∧ Hid (sumV x y z t f k = q) ∧ Hid (Below w2.heap.size w2 wr)) (fun _ kv _ _ => N - (intOf kv).toNat)
      case atStart => exact ⟨0, 0, Nat.zero_le _, rfl, rfl, rfl, Below.refl _ _⟩
      case round =>
        obtain ⟨k, q, hk, rfl, rfl, hq, hb⟩ := hrel
        by_cases hlt : k < N
        · have HBR := Lib.hid (HB2.out.trans (hb.out.mono HB2.out.size))
          have hx := HX2.out.below hb.out
          obtain ⟨e1, e2⟩ := HCV.out k hlt
          obtain ⟨ad, Aj, cj, nj, hAe, hc, hrr, -⟩ := (HSS.out.below hb.out).at_ hlt
          rw [aL_get hlt] at hrr
          have hnj : nj ≤ 6 := by rw [← hrr.1]; exact bL_few k e2
          injection hAe with hAe
          subst hAe
          rw [addr0] at hc
          have c0 := hx.cell0
          have c1 := hx.cell1
          have HGW : Hid (g < wr.heap.size) := World.block_lt_of_cell? wr _ hc
          have HXR := Lib.hid hx; have HRW := Lib.hid hrr; have HC := Lib.hid hc; have HE1 := Lib.hid e1
          obtain ⟨v0, v1, v2, v3, v4, h5⟩ := subL_five t f k
          obtain ⟨⟨p0, p1⟩, ⟨p2, p3⟩, p4, p5⟩ := sub_small HM.out e2 h5
          have g1 : IntKind.i64.wrap (v0 - 1) = v0 - 1 := IntWalk.i64_in _ (by omega)
          have HQ : Hid (sumV x y z t f (k + 1) = IntKind.i64.wrap (q + IntKind.i64.wrap (IntKind.i64.wrap (pwW x (v0 - 1).toNat * pwW y v3.toNat) * pwW z v4.toNat))) := by rw [Hid, sumV, hq.out, h5]; rfl
          have H5 := Lib.hid h5
          have hk0 : (0 : Int) ≤ (k : Int) := by omega
          have hkI : (k : Int) < (N : Int) := by omega
          clear hx hrr e1 hq h5
          go_wp2_with fail
          go_region_held3 (fun w' => w'.cell? ⟨w.heap.size, 0, none⟩ = some (.slice A n c) ∧ w'.cell? ⟨w.heap.size, 1, none⟩ = some (.slice A' n c') ∧ w'.cell? ⟨g, k, none⟩ = some (.slice Aj nj cj)) (first | go_keep | exact ⟨(HXR.out.below BL.out).cell0, (HXR.out.below BL.out).cell1, (BL.out.cell (p := ⟨g, k, none⟩) HGW.out).trans HC.out⟩) (first
            | (go_at_call 41; refine (l7Counts_any A A' n c c' k t f _ ((H.out.below HBR.out).drewN _) ((H'.out.below HBR.out).drewN _) HM.out Aj cj nj (bL k) (HRW.out.drewN _) HE1.out rfl).mono ?_; rintro e w3 ⟨v, rfl, o, bl⟩; have HO := Lib.hid o; have BL := Lib.hid (Below.of_drewN bl); clear o bl))
          rw [H5.out] at HO
          obtain ⟨A5, c5, rfl, -, -⟩ := HO.out.form' (n := 5) rfl
          obtain ⟨g5, rfl, -, f0, -⟩ := HO.out.cellAt (n := 5) rfl (k := 0) (by omega)
          obtain ⟨g', e', -, f3, -⟩ := HO.out.cellAt (n := 5) rfl (k := 3) (by omega)
          simp only [Option.some.injEq, Addr.mk.injEq, and_true] at e'
          subst e'
          obtain ⟨g', e', -, f4, -⟩ := HO.out.cellAt (n := 5) rfl (k := 4) (by omega)
          simp only [Option.some.injEq, Addr.mk.injEq, and_true] at e'
          subst e'
          have e0 : w3.cell? ⟨g5, 0, none⟩ = some (.int .i64 v0) := f0
          have e3 : w3.cell? ⟨g5, 3, none⟩ = some (.int .i64 v3) := f3
          have e4 : w3.cell? ⟨g5, 4, none⟩ = some (.int .i64 v4) := f4
          clear f0 f3 f4 c0 c1 hc
          go_wp2_with fail
          go_quiet ((go_at_call 51; exact (l7Power_any _ _ _ (by omega) (by omega) rfl).mono fun e w' h => ⟨h.1, _, h.2.symm⟩))
          go_wp2_with fail
          go_roundw
          case rel => exact ⟨k + 1, _, by omega, by go_num, rfl, (by have h := HQ.out; simp only [wr64] at h; rwa [show (v0 - 1).toNat = v0.toNat - 1 by omega] at h), below_drewN (hb.out.trans (BL.out.mono hb.out.size)) _⟩
          case measure => simp [intOf]; omega
        · have hkN : k = N := by omega
          have HE2 : Hid (q = r) := by rw [Hid, ← HE.out, ← hkN]; exact hq.out.symm
          clear hkN hq
          go_wp2_with fail
          go_ret
          exact ⟨ret_int HE2.out, HB2.out.trans (hb.out.mono HB2.out.size)⟩
    · have hr1 : r = -1 := by rw [← hR, valR, if_neg (fun h => h3 h.2)]
      subst hr1
      have hb3 : (bx && (by' && bz)) = false := by rw [in3, hbx, hby, hbz] at h3; simpa using h3
      have HV := Lib.hid hv; have HBX := Lib.hid hbx; have HBY := Lib.hid hby; have HBZ := Lib.hid hbz; clear hv hm hR h3 hbx hby hbz
      have key : bx = false ∨ (bx = true ∧ by' = false) ∨ (bx = true ∧ by' = true ∧ bz = false) := by cases bx <;> cases by' <;> cases bz <;> simp_all
      clear hb3
      rcases key with rfl | ⟨rfl, rfl⟩ | ⟨rfl, rfl, rfl⟩
      all_goals
        go_enter Try.func30, Try.ntmps30
        go_wp2_with fail
        refine (spec_mapV W0 A A' n n c c' t f (H.out.below HB.out) (H'.out.below HB.out) hn hn' HV.out).mono ?_
        rintro e w1 ⟨rfl, b⟩
        have HB1 := Lib.hid (HB.out.trans (b.mono HB.out.size))
        clear b c0 c1
        go_wp2_with fail
        refine (in_any x 0 3 w1).mono ?_
        rintro e w2 ⟨rfl, rfl⟩
        rw [HBX.out]
        go_wp2_with fail
        first
          | (go_ret; exact ⟨rfl, HB1.out⟩)
          | (refine (in_any y 0 3 w1).mono ?_
             rintro e w2 ⟨rfl, rfl⟩
             rw [HBY.out]
             go_wp2_with fail
             first
              | (go_ret; exact ⟨rfl, HB1.out⟩)
              | (refine (in_any z 0 3 w1).mono ?_
                 rintro e w2 ⟨rfl, rfl⟩
                 rw [HBZ.out]
                 go_wp2_with fail
                 go_ret
                 exact ⟨rfl, HB1.out⟩))
  · have hv' : mapV t f = false := by simpa using hv
    obtain rfl : r = -1 := by rw [← hR, valR, if_neg (fun h => hv h.1)]
    have HV := Lib.hid hv'; clear hR hv hv' hbx hby hbz
    go_enter Try.func30, Try.ntmps30
    go_wp2_with fail
    refine (spec_mapV W0 A A' n n' c c' t f (H.out.below HB.out) (H'.out.below HB.out) hn hn' HV.out).mono ?_
    rintro e w1 ⟨rfl, b⟩
    have HB1 := Lib.hid (HB.out.trans (b.mono HB.out.size)); clear b
    go_wp2_with fail
    go_ret
    exact ⟨rfl, HB1.out⟩

end Go.Proofs.Ytpaohaodnchfkaa
