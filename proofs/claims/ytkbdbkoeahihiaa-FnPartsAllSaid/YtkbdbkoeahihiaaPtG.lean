/-
  Degrees of shapes: the model's and the program's.
-/
import Derived.Test.YtkbdbkoeahihiaaPtZ
namespace Go.Proofs.Ytkbdbkoeahihiaa
open Go.RowKit

/-- The program's steps in a row. -/
def dgIn (xs : List Int) (r : Nat) (D : Int) : Nat → Int
  | 0 => D
  | c + 1 => (dgIn xs r D c).tdiv (gi xs r - 1 - c + (gi (cj xs) c - 1 - r) + 1)
def dgI (xs : List Int) : Nat → Int
  | 0 => fct (sumI xs).toNat
  | r + 1 => dgIn xs r (dgI xs r) (gn xs r)
/-- The model's. -/
def dgSn (xs : List Int) (r : Nat) (D : Int) : Nat → Int
  | 0 => D
  | c + 1 => dgSn xs r D c * (gi xs r - c + gi (cj xs) c - r - 1)
def dgS (xs : List Int) : Nat → Int
  | 0 => 1
  | r + 1 => dgSn xs r (dgS xs r) (gn xs r)
theorem dgI_in : ∀ xs ∈ allPts, ∀ r, r < xs.length → ∀ c, c < gn xs r → c < gn xs 0 ∧ 1 ≤ gi (cj xs) c ∧ gi (cj xs) c ≤ 6 ∧ 1 ≤ gi xs r - 1 - c + (gi (cj xs) c - 1 - r) + 1 ∧ gi xs r - 1 - c + (gi (cj xs) c - 1 - r) + 1 ≤ 12 ∧ 1 ≤ dgIn xs r (dgI xs r) (c + 1) ∧ dgIn xs r (dgI xs r) (c + 1) ≤ 720 := by decide +kernel
theorem dgS_in : ∀ xs ∈ allPts, ∀ r, r < xs.length → ∀ c, c < gn xs r → 1 ≤ dgSn xs r (dgS xs r) (c + 1) ∧ dgSn xs r (dgS xs r) (c + 1) ≤ 720 := by decide +kernel
theorem dg_same : ∀ xs ∈ allPts, 1 ≤ dgS xs xs.length ∧ dgS xs xs.length ≤ 720 ∧ (fct (sumI xs).toNat).tdiv (dgS xs xs.length) = dgI xs xs.length ∧ 1 ≤ dgI xs xs.length ∧ dgI xs xs.length ≤ 720 := by decide +kernel
def dg (xs : List Int) : Int := dgI xs xs.length
def dgR (xs : List Int) : Int := if pt xs = true then dg xs else -1

set_option maxHeartbeats 1600000 in
theorem degree_any (A : Option Addr) (n c : Nat) (xs : List Int) (w : World) (h : Rd w A n xs) (hp : Pt xs) :
    Calls Try.prog 46 #[.slice A n c] w fun e w' => e = .returned (.int .i64 (dg xs)) ∧ Below w.heap.size w w' := by
  have hn6 : n ≤ 6 := by have := hp.len; rw [h.1] at this; exact this
  have hsm := hp.sum
  obtain ⟨s, hs⟩ := Int.eq_ofNat_of_zero_le (show 0 ≤ sumI xs by omega)
  have hs7 : s ≤ 7 := by omega
  obtain ⟨p0, hp0, hp1, hp6, hpg⟩ := hp.nat (j := 0) (by have := hp.1; omega)
  have HA := Lib.hid (dgI_in xs hp.all)
  have H := Lib.hid h; have HP := Lib.hid hp; have Hx := Lib.hid h.1; have HS := Lib.hid hs; have HG := Lib.hid hpg; clear h hp hsm hs hp0 hpg
  go_enter Try.func46, Try.ntmps46
  go_wp2_with fail
  refine (sum_any A n c xs w H.out HP.out).mono ?_
  rintro e w1 ⟨rfl, rfl⟩
  rw [HS.out]
  go_wp2_with fail
  refine (factorial_any s w1 hs7).mono ?_
  rintro e w2 ⟨rfl, rfl⟩
  go_wp2_with fail
  refine (conjP_any A n c xs w2 H.out HP.out).mono ?_
  rintro e w3 ⟨v, rfl, o, b⟩
  have HB := Lib.hid b; have H3 := Lib.hid (H.out.below b); clear b
  obtain ⟨Aj, cc, rfl, hrj, -⟩ := o.form' (n := p0) (by rw [cj_len, HG.out])
  have HJ := Lib.hid hrj; clear o hrj
  go_wp2_with fail
  go_loopw [3, 17] (fun s i wr => ∃ (k q : Nat) (t : Int), k ≤ n ∧ s = .int .i64 t ∧ i = .int .i64 k ∧ wr = w3.drewN q ∧ Hid (t = dgI xs k)) (fun _ i _ => n - (intOf i).toNat)
  case atStart => exact ⟨0, 0, _, Nat.zero_le _, rfl, rfl, rfl, by rw [Hid, dgI, HS.out]; rfl⟩
  case round =>
    obtain ⟨k, q, t, hk, rfl, rfl, rfl, hT⟩ := hrel
    by_cases hlt : k < n
    · obtain ⟨ad, rfl, hc⟩ := H3.out.at_ hlt
      obtain ⟨x, hx, hx1, hx6, hgn⟩ := HP.out.nat (j := k) (by rw [Hx.out]; exact hlt)
      rw [hx] at hc
      have HX := Lib.hid hx; have HGN := Lib.hid hgn; clear hx hgn
      go_wp2_with fail
      go_loopw [3, 23] (fun s i wr => ∃ (m q : Nat) (t' : Int), m ≤ x ∧ s = .int .i64 t' ∧ i = .int .i64 m ∧ wr = w3.drewN q ∧ Hid (t' = dgIn xs k t m)) (fun _ i _ => x - (intOf i).toNat)
      case atStart => exact ⟨0, q, t, Nat.zero_le _, rfl, rfl, rfl, rfl⟩
      case round =>
        obtain ⟨m, q, t', hm, rfl, rfl, rfl, hT'⟩ := hrel
        by_cases hlt' : m < x
        · obtain ⟨b1, b2, b3, b4, b5, b6, b7⟩ := HA.out k (by rw [Hx.out]; exact hlt) m (by rw [HGN.out]; exact hlt')
          have hmp : m < p0 := by rw [HG.out] at b1; exact b1
          obtain ⟨aj, e1, hcj⟩ := HJ.out.at_ hmp
          subst e1
          obtain ⟨t2, ht2⟩ : ∃ t2, dgIn xs k t (m + 1) = t2 := ⟨_, rfl⟩
          obtain ⟨y, hy⟩ : ∃ y, gi (cj xs) m = y := ⟨_, rfl⟩
          rw [← hT.out, ht2] at b6 b7
          have ht3 := ht2
          rw [dgIn, ← hT'.out] at ht3
          rw [HX.out, hy] at b4 b5 ht3
          rw [hy] at b2 b3 hcj
          obtain ⟨a1, ha1⟩ : ∃ a1, (x : Int) - 1 = a1 := ⟨_, rfl⟩
          obtain ⟨a2, ha2⟩ : ∃ a2, a1 - (m : Int) = a2 := ⟨_, rfl⟩
          obtain ⟨a3, ha3⟩ : ∃ a3, y - 1 = a3 := ⟨_, rfl⟩
          obtain ⟨a4, ha4⟩ : ∃ a4, a3 - (k : Int) = a4 := ⟨_, rfl⟩
          obtain ⟨a5, ha5⟩ : ∃ a5, a2 + a4 = a5 := ⟨_, rfl⟩
          obtain ⟨a6, ha6⟩ : ∃ a6, a5 + 1 = a6 := ⟨_, rfl⟩
          rw [ha1, ha2, ha3, ha4, ha5, ha6] at b4 b5 ht3
          have g1 : IntKind.i64.wrap ((x : Int) - 1) = a1 := by rw [ha1]; exact IntWalk.i64_in _ (by omega)
          have g2 : IntKind.i64.wrap (a1 - (m : Int)) = a2 := by rw [ha2]; exact IntWalk.i64_in _ (by omega)
          have g3 : IntKind.i64.wrap (y - 1) = a3 := by rw [ha3]; exact IntWalk.i64_in _ (by omega)
          have g4 : IntKind.i64.wrap (a3 - (k : Int)) = a4 := by rw [ha4]; exact IntWalk.i64_in _ (by omega)
          have g5 : IntKind.i64.wrap (a2 + a4) = a5 := by rw [ha5]; exact IntWalk.i64_in _ (by omega)
          have g6 : IntKind.i64.wrap (a5 + 1) = a6 := by rw [ha6]; exact IntWalk.i64_in _ (by omega)
          have g7 : ¬ (a6 = 0) := by omega
          have g8 : IntKind.i64.wrap (t'.tdiv a6) = t2 := by rw [ht3]; exact IntWalk.i64_in _ (by omega)
          have HT2 := Lib.hid ht2
          clear ha1 ha2 ha3 ha4 ha5 ha6 ht2 ht3 hy
          go_wp2_with fail
          go_quiet (fail)
          go_wp2_with fail
          go_roundw
          case rel => exact ⟨m + 1, q + _, t2, by omega, rfl, by go_num, rfl, HT2.out.symm⟩
          case measure => simp [intOf]; omega
        · obtain rfl : m = x := by omega
          go_wp2_with fail
          go_roundw
          case rel => exact ⟨k + 1, q, t', by omega, rfl, by go_num, rfl, by rw [Hid, dgI, ← hT.out, HGN.out]; exact hT'.out⟩
          case measure => simp [intOf]; omega
    · obtain rfl : k = n := by omega
      go_wp2_with fail
      go_ret
      exact ⟨ret_int (by rw [hT.out, dg, Hx.out]), below_drewN HB.out _⟩

set_option maxHeartbeats 1600000 in
theorem l5Degree_any (A : Option Addr) (n c : Nat) (xs : List Int) (w : World) (h : Rd w A n xs) (hp : Pt xs) :
    Calls Try.prog 64 #[.slice A n c] w fun e w' => e = .returned (.int .i64 (dg xs)) ∧ Below w.heap.size w w' := by
  have hn6 : n ≤ 6 := by have := hp.len; rw [h.1] at this; exact this
  have hsm := hp.sum
  obtain ⟨s, hs⟩ := Int.eq_ofNat_of_zero_le (show 0 ≤ sumI xs by omega)
  have hs7 : s ≤ 7 := by omega
  obtain ⟨p0, hp0, hp1, hp6, hpg⟩ := hp.nat (j := 0) (by have := hp.1; omega)
  have HA := Lib.hid (dgI_in xs hp.all); have HAS := Lib.hid (dgS_in xs hp.all); have HSM := Lib.hid (dg_same xs hp.all)
  have H := Lib.hid h; have HP := Lib.hid hp; have Hx := Lib.hid h.1; have HS := Lib.hid hs; have HG := Lib.hid hpg; clear h hp hsm hs hp0 hpg
  go_enter Try.func64, Try.ntmps64
  go_wp2_with fail
  refine (l5Conj_any A n c xs w H.out HP.out).mono ?_
  rintro e w3 ⟨v, rfl, o, b⟩
  have HB := Lib.hid b; have H3 := Lib.hid (H.out.below b); clear b
  obtain ⟨Aj, cc, rfl, hrj, -⟩ := o.form' (n := p0) (by rw [cj_len, HG.out])
  have HJ := Lib.hid hrj; clear o hrj
  go_wp2_with fail
  go_loopw [4, 5] (fun s i wr => ∃ (k q : Nat) (t : Int), k ≤ n ∧ s = .int .i64 t ∧ i = .int .i64 k ∧ wr = w3.drewN q ∧ Hid (t = dgS xs k)) (fun _ i _ => n - (intOf i).toNat)
  case atStart => exact ⟨0, 0, _, Nat.zero_le _, rfl, rfl, rfl, rfl⟩
  case round =>
    obtain ⟨k, q, t, hk, rfl, rfl, rfl, hT⟩ := hrel
    by_cases hlt : k < n
    · obtain ⟨ad, rfl, hc⟩ := H3.out.at_ hlt
      obtain ⟨x, hx, hx1, hx6, hgn⟩ := HP.out.nat (j := k) (by rw [Hx.out]; exact hlt)
      rw [hx] at hc
      have HX := Lib.hid hx; have HGN := Lib.hid hgn; clear hx hgn
      go_wp2_with fail
      go_loopw [4, 6] (fun s i wr => ∃ (m q : Nat) (t' : Int), m ≤ x ∧ s = .int .i64 t' ∧ i = .int .i64 m ∧ wr = w3.drewN q ∧ Hid (t' = dgSn xs k t m)) (fun _ i _ => x - (intOf i).toNat)
      case atStart => exact ⟨0, q, t, Nat.zero_le _, rfl, rfl, rfl, rfl⟩
      case round =>
        obtain ⟨m, q, t', hm, rfl, rfl, rfl, hT'⟩ := hrel
        by_cases hlt' : m < x
        · obtain ⟨b1, b2, b3, b4, b5, -, -⟩ := HA.out k (by rw [Hx.out]; exact hlt) m (by rw [HGN.out]; exact hlt')
          obtain ⟨b6, b7⟩ := HAS.out k (by rw [Hx.out]; exact hlt) m (by rw [HGN.out]; exact hlt')
          have hmp : m < p0 := by rw [HG.out] at b1; exact b1
          obtain ⟨aj, e1, hcj⟩ := HJ.out.at_ hmp
          subst e1
          obtain ⟨t2, ht2⟩ : ∃ t2, dgSn xs k t (m + 1) = t2 := ⟨_, rfl⟩
          obtain ⟨y, hy⟩ : ∃ y, gi (cj xs) m = y := ⟨_, rfl⟩
          rw [← hT.out, ht2] at b6 b7
          have ht3 := ht2
          rw [dgSn, ← hT'.out] at ht3
          rw [HX.out, hy] at ht3
          rw [hy] at b2 b3 hcj
          obtain ⟨a1, ha1⟩ : ∃ a1, (x : Int) - (m : Int) = a1 := ⟨_, rfl⟩
          obtain ⟨a2, ha2⟩ : ∃ a2, a1 + y = a2 := ⟨_, rfl⟩
          obtain ⟨a3, ha3⟩ : ∃ a3, a2 - (k : Int) = a3 := ⟨_, rfl⟩
          obtain ⟨a4, ha4⟩ : ∃ a4, a3 - 1 = a4 := ⟨_, rfl⟩
          rw [ha1, ha2, ha3, ha4] at ht3
          have g1 : IntKind.i64.wrap ((x : Int) - (m : Int)) = a1 := by rw [ha1]; exact IntWalk.i64_in _ (by omega)
          have g2 : IntKind.i64.wrap (a1 + y) = a2 := by rw [ha2]; exact IntWalk.i64_in _ (by omega)
          have g3 : IntKind.i64.wrap (a2 - (k : Int)) = a3 := by rw [ha3]; exact IntWalk.i64_in _ (by omega)
          have g4 : IntKind.i64.wrap (a3 - 1) = a4 := by rw [ha4]; exact IntWalk.i64_in _ (by omega)
          have g8 : IntKind.i64.wrap (t' * a4) = t2 := by rw [ht3]; exact IntWalk.i64_in _ (by omega)
          have HT2 := Lib.hid ht2
          clear ha1 ha2 ha3 ha4 ht2 ht3 hy
          go_wp2_with fail
          go_quiet (fail)
          go_wp2_with fail
          go_roundw
          case rel => exact ⟨m + 1, q + _, t2, by omega, rfl, by go_num, rfl, HT2.out.symm⟩
          case measure => simp [intOf]; omega
        · obtain rfl : m = x := by omega
          go_wp2_with fail
          go_roundw
          case rel => exact ⟨k + 1, q, t', by omega, rfl, by go_num, rfl, by rw [Hid, dgS, ← hT.out, HGN.out]; exact hT'.out⟩
          case measure => simp [intOf]; omega
    · obtain rfl : k = n := by omega
      obtain ⟨z1, z2, z3, z4, z5⟩ := HSM.out
      rw [Hx.out, ← hT.out] at z1 z2 z3
      rw [HS.out] at z3
      have z3' : (fct s).tdiv t = dg xs := by rw [dg, Hx.out]; exact z3
      have z4' : 1 ≤ dg xs ∧ dg xs ≤ 720 := by rw [dg]; exact ⟨z4, z5⟩
      obtain ⟨D, hD⟩ : ∃ D, dg xs = D := ⟨_, rfl⟩
      rw [hD] at z3' z4'
      obtain ⟨F, hF⟩ : ∃ F, fct s = F := ⟨_, rfl⟩
      rw [hF] at z3'
      have g1 : ¬ (t = 0) := by omega
      have g2 : IntKind.i64.wrap (F.tdiv t) = D := by rw [z3']; exact IntWalk.i64_in _ (by omega)
      have HF := Lib.hid hF; have HD := Lib.hid hD
      clear z3 z4 z5 z3' z4' hD hF
      go_wp2_with fail
      refine (l5Sum_any A k c xs _ (H3.out.drewN q) HP.out).mono ?_
      rintro e w4 ⟨rfl, rfl⟩
      rw [HS.out]
      go_wp2_with fail
      refine (l5Times_any s _ hs7).mono ?_
      rintro e w5 ⟨rfl, rfl⟩
      rw [HF.out]
      go_wp2_with fail
      go_ret
      exact ⟨ret_int HD.out.symm, below_drewN HB.out _⟩

set_option maxHeartbeats 800000 in
theorem impl_dgR (w : World) (A : Option Addr) (c n : Nat) (xs : List Int) (h : Rd w A n xs) (hn : n ≤ 1048576) {r : Int} (hR : dgR xs = r) :
    Calls Try.prog 21 #[.slice A n c] w fun e w' => e = .returned (.int .i64 r) ∧ Below w.heap.size w w' := by
  have H0 := Lib.hid h; have HR := Lib.hid hR; clear h hR
  by_cases hb : pt xs = true
  · have HP := Lib.hid (Pt_of hb)
    obtain rfl : dg xs = r := by have := HR.out; rw [dgR, if_pos hb] at this; exact this
    go_enter Try.func21, Try.ntmps21
    go_wp2_with fail
    refine (impl_pts w A c n xs H0.out hn hb).mono ?_
    rintro e w1 ⟨rfl, rfl⟩
    go_wp2_with fail
    refine (degree_any A n c xs w1 H0.out HP.out).mono ?_
    rintro e w2 ⟨rfl, b⟩
    have HB2 := Lib.hid b; clear b
    go_wp2_with fail
    go_ret
    exact ⟨rfl, HB2.out⟩
  · have hb' : pt xs = false := by simpa using hb
    obtain rfl : -1 = r := by have := HR.out; rw [dgR, if_neg hb] at this; exact this
    clear HR hb
    go_enter Try.func21, Try.ntmps21
    go_wp2_with fail
    refine (impl_pts w A c n xs H0.out hn hb').mono ?_
    rintro e w1 ⟨rfl, rfl⟩
    go_wp2_with fail
    go_ret
    exact ⟨rfl, Below.refl _ _⟩

end Go.Proofs.Ytkbdbkoeahihiaa
