/-
  FnClassSize: the walk of the law.
-/
import Derived.Test.YtjfammlegpiihaaLawMap
import Derived.Test.YtjfammlegpiihaaDrawPt
import Derived.Test.YtjfammlegpiihaaPtZ
import Derived.Test.YtjfammlegpiihaaType
namespace Go.Proofs.Ytjfammlegpiihaa
open Go.RowKit

/-- The digits of a number, n of them, the last one first. -/
def digs (n : Nat) : Nat → Nat → List Int
  | 0, _ => []
  | k + 1, x => ((x % n : Nat) : Int) :: digs n k (x / n)
/-- The first j digits. -/
def digT (n x j : Nat) : List Int := digs n j x
theorem digs_succ (n : Nat) : ∀ j x : Nat, digs n (j + 1) x = digs n j x ++ [((x / n ^ j % n : Nat) : Int)] := by
  intro j
  induction j with
  | zero => intro x; simp [digs]
  | succ j ih =>
    intro x
    rw [digs, ih (x / n)]
    simp only [digs, List.cons_append, Nat.div_div_eq_div_mul]
    rw [show n * n ^ j = n ^ (j + 1) by rw [Nat.pow_succ, Nat.mul_comm]]
theorem digs_len (n : Nat) : ∀ j x : Nat, (digs n j x).length = j := by
  intro j
  induction j with
  | zero => intro x; rfl
  | succ j ih => intro x; simp [digs, ih]
def hitB (p : List Int) (n x : Nat) : Bool := decide (typeR (digs n n x) = (true, p))
/-- How many of the first x numbers have digits of the class. -/
def hits (p : List Int) (n : Nat) : Nat → Nat
  | 0 => 0
  | x + 1 => if hitB p n x then hits p n x + 1 else hits p n x
theorem hits_le (p : List Int) (n x : Nat) : hits p n x ≤ x := by
  induction x with
  | zero => exact Nat.le_refl _
  | succ x ih => simp only [hits]; split <;> omega
def csB (p : List Int) : Bool := decide (p.sum = sumI p) && decide (1 ≤ cs p ∧ cs p ≤ 720) && decide ((fct (sumI p).toNat).tmod (cs p) = 0) && (decide (4 < sumI p) || decide ((hits p (sumI p).toNat ((sumI p).toNat ^ (sumI p).toNat) : Int) = cs p))
theorem csB_all : ∀ p ∈ allPts, csB p = true := by decide +kernel
theorem cs_law {p : List Int} (h : p ∈ allPts) : p.sum = sumI p ∧ (1 ≤ cs p ∧ cs p ≤ 720) ∧ (fct (sumI p).toNat).tmod (cs p) = 0 ∧ (sumI p ≤ 4 → (hits p (sumI p).toNat ((sumI p).toNat ^ (sumI p).toNat) : Int) = cs p) := by
  have := csB_all p h
  simp only [csB, Bool.and_eq_true, Bool.or_eq_true, decide_eq_true_eq] at this
  obtain ⟨⟨⟨a, b⟩, c⟩, d⟩ := this
  exact ⟨a, b, c, fun h => d.resolve_left (by omega)⟩

set_option maxHeartbeats 800000 in
theorem timesOf_any (n : Nat) (w : World) (hn : n ≤ 7) :
    Calls Try.prog 21 #[.int .i64 n] w fun e w' => e = .returned (.int .i64 (fct n)) ∧ w' = w := by
  go_enter Try.func21, Try.ntmps21
  go_wp2_with fail
  go_loop [3, 4] (fun s i => ∃ (k : Nat) (t : Int), 1 ≤ k ∧ (k ≤ n ∨ (n = 0 ∧ k = 1)) ∧ s = .int .i64 t ∧ i = .int .i64 (k + 1 : Nat) ∧ Hid (t = fct k)) (fun _ i => n + 2 - (intOf i).toNat)
  case atStart => exact ⟨1, 1, Nat.le_refl _, by omega, rfl, rfl, rfl⟩
  case round =>
    obtain ⟨k, t, hk1, hk, rfl, rfl, hT⟩ := hrel
    obtain ⟨k1, hk1⟩ : ∃ k1, k1 = k + 1 := ⟨_, rfl⟩
    rw [← hk1]
    by_cases hlt : k < n
    · have hd : decide (k1 ≤ n) = true := by simp; omega
      have hm : IntKind.i64.wrap ((k1 : Int) * t) = fct k1 := by
        have e : (k1 : Int) * t = fct k1 := by rw [hT.out, hk1, fct]
        have := fct_in k1 (by omega)
        rw [e, IntWalk.i64_in _ (by omega)]
      have hk8 : k1 ≤ 8 := by omega
      have HK1 := Lib.hid hk1; clear hk1
      go_wp2_with fail
      go_round
      case rel => exact ⟨k1, fct k1, by have := HK1.out; omega, by have := HK1.out; omega, rfl, by have := HK1.out; subst this; go_num, rfl⟩
      case measure => have := HK1.out; simp [intOf]; omega
    · have hd : decide (k1 ≤ n) = false := by simp; omega
      have HK1 := Lib.hid hk1; clear hk1
      go_wp2_with fail
      go_ret
      refine ⟨ret_int ?_, rfl⟩
      rw [hT.out]
      rcases hk with hk | ⟨h0, h1⟩
      · rw [show k = n by omega]
      · rw [h0, h1]; rfl

set_option maxRecDepth 100000 in
set_option maxHeartbeats 3200000 in
theorem walk_FnClassSize (A0 : Option Addr) (n0 c0 : Nat) (bs0 : List Int) (w : World) (h0 : RdB w A0 n0 bs0) (hm0 : n0 ≤ maxLen ∧ n0 ≤ c0) :
    Calls Try.prog 5 #[.slice A0 n0 c0] w fun e w' => e = .returned (.bool true) ∧ Below w.heap.size w w' := by
  have HB0_0 := Lib.hid h0; have hc0 := hm0.2; have hml0 := hm0.1; clear h0 hm0; unfold maxLen at hml0
  by_cases hbig0 : 1048576 < n0
  · have hd : decide ((1048576 : Int) < n0) = true := by simp; omega
    go_enter Try.func5, Try.ntmps5
    go_wp2
    go_ret
    exact ⟨rfl, Below.refl _ _⟩
  have hd0 : decide ((1048576 : Int) < n0) = false := by simp; omega
  have hnb0 : n0 ≤ 1048576 := by omega
  clear hbig0
  go_enter Try.func5, Try.ntmps5
  go_wp2_with fail
  refine (drawClassSize_any w A0 n0 c0 bs0 HB0_0.out hnb0 hc0).mono ?_
  rintro e w1 ⟨v, p, rfl, o, hlp, b⟩
  obtain ⟨np, hn⟩ : ∃ n, p.length = n := ⟨_, rfl⟩
  rw [hn] at hlp
  obtain ⟨Ap, cp, rfl, -, -⟩ := o.form' hn
  have HRp := Lib.hid (o.rd hn); have HNp := Lib.hid hn; clear o hn
  have HB := Lib.hid b; have hs := b.size; clear b
  by_cases hv : pt p = true
  · have HV := Lib.hid (Pt_of hv)
    obtain ⟨f1, ⟨f2, f3⟩, f4, f5⟩ := cs_law HV.out.all
    have h1p : 1 ≤ np := by have := HV.out.1; rw [HNp.out] at this; exact this
    have h6p : np ≤ 6 := by have := HV.out.len; rw [HNp.out] at this; exact this
    have hsm := HV.out.sum
    obtain ⟨s, hs0⟩ := Int.eq_ofNat_of_zero_le (show 0 ≤ sumI p by omega)
    rw [hs0] at f1 f4 f5 hsm
    have et : ((s : Int)).toNat = s := by omega
    rw [et] at f4 f5
    obtain ⟨c, hc⟩ : ∃ c, cs p = c := ⟨_, rfl⟩
    rw [hc] at f2 f3 f4 f5
    have hs1 : 1 ≤ s ∧ s ≤ 6 := by omega
    obtain ⟨F, hF⟩ : ∃ F, fct s = F := ⟨_, rfl⟩
    have hFb := fct_in s (by omega)
    rw [hF] at f4 hFb
    have hcd : (c != c) = false := by simp
    have hcn : decide (c < 0) = false := by simp; omega
    have hcp : decide (0 < c) = true := by simp; omega
    have hc0 : ¬ (c = 0) := by omega
    have HF1 := Lib.hid f1; have HF4 := Lib.hid f4; have HF5 := Lib.hid f5; have HS := Lib.hid hs0; have HC := Lib.hid hc; have HF := Lib.hid hF
    clear f1 f4 f5 hs0 hc et hF hsm
    go_wp2_with fail
    refine (impl_csR w1 Ap cp np p HRp.out (by omega) (r := c) (by rw [csR, if_pos hv]; exact HC.out)).mono ?_
    rintro e w2 ⟨rfl, b⟩
    replace HRp := Lib.hid (HRp.out.below b)
    replace HB := Lib.hid (HB.out.trans (b.mono hs)); replace hs := HB.out.size
    clear b
    go_wp2_with fail
    refine (spec_csR w2 Ap cp np p HRp.out (by omega) (r := c) (by rw [csR, if_pos hv]; exact HC.out)).mono ?_
    rintro e w3 ⟨rfl, b⟩
    replace HRp := Lib.hid (HRp.out.below b)
    replace HB := Lib.hid (HB.out.trans (b.mono hs)); replace hs := HB.out.size
    clear b
    go_wp2_with fail
    refine (sumB_any w3 Ap np cp p HRp.out (by omega) (fun j hj => by have := HV.out.le (j := j) (by rw [HNp.out]; exact hj); omega) HF1.out).mono ?_
    rintro e w4 ⟨rfl, b⟩
    replace HRp := Lib.hid (HRp.out.below b)
    replace HB := Lib.hid (HB.out.trans (b.mono hs)); replace hs := HB.out.size
    clear b
    by_cases h4 : 4 < s
    · have hd4 : decide (4 < s) = true := by simpa using h4
      have hd4' : decide ((4 : Int) < (s : Int)) = true := by simp; omega
      have hm1 : IntKind.i64.wrap (F.tmod c) = 0 := by rw [HF4.out]; rfl
      have hm2 : F % c = 0 := by have := HF4.out; rwa [Int.tmod_eq_emod_of_nonneg (by omega)] at this
      go_wp2_with fail
      refine (timesOf_any s w4 (by omega)).mono ?_
      rintro e wt ⟨rfl, rfl⟩
      rw [HF.out]
      go_wp2_with fail
      go_ret
      exact ⟨rfl, HB.out⟩
    have hd4 : decide (4 < s) = false := by simpa using h4
    have hd4' : decide ((4 : Int) < (s : Int)) = false := by simp; omega
    obtain ⟨i0, hinf, hz0, hz1, hz2⟩ := info_parts info_int
    have hpow : s ^ s ≤ 256 := Nat.le_trans (Nat.pow_le_pow_left (show s ≤ 4 by omega) s) (Nat.pow_le_pow_right (by omega) (show s ≤ 4 by omega))
    have HPW : Hid (∀ k, k ≤ s → s ^ k ≤ 256 ∧ 1 ≤ s ^ k) := fun k hk => ⟨Nat.le_trans (Nat.pow_le_pow_right (by omega) hk) hpow, Nat.one_le_pow _ _ (by omega)⟩
    go_wp2_with fail
    go_loop [7, 8] (fun a i => ∃ (k t : Nat), k ≤ s ∧ a = .int .i64 t ∧ i = .int .i64 k ∧ Hid (t = s ^ k)) (fun _ i => s - (intOf i).toNat)
    case atStart => exact ⟨0, 1, Nat.zero_le _, rfl, rfl, rfl⟩
    case round =>
      obtain ⟨k, t, hk, rfl, rfl, hT⟩ := hrel
      by_cases hlt : k < s
      · obtain ⟨t', ht'⟩ : ∃ t', s ^ (k + 1) = t' := ⟨_, rfl⟩
        have hb' := (HPW.out (k + 1) (by omega)).1
        rw [ht'] at hb'
        have hm : IntKind.i64.wrap ((t : Int) * (s : Int)) = (t' : Int) := by
          have e : (t : Int) * (s : Int) = (t' : Int) := by rw [← ht', Nat.pow_succ, hT.out]; simp
          rw [e]; exact IntWalk.i64_in _ (by omega)
        have HT' := Lib.hid ht'; clear ht'
        go_wp2_with fail
        go_round
        case rel => exact ⟨k + 1, t', by omega, rfl, by go_num, HT'.out.symm⟩
        case measure => simp [intOf]; omega
      · have hks : k = s := by omega
        have HA : Hid (t = s ^ s) := by rw [Hid, hT.out, hks]
        have ht256 : t ≤ 256 := by rw [HA.out]; exact hpow
        clear hks
        go_wp2_with fail
        go_loopw [9, 10] (fun mv xv wz => ∃ (x m : Nat), x ≤ t ∧ mv = .int .i64 m ∧ xv = .int .i64 x ∧ Hid (m = hits p s x) ∧ Hid (Below w4.heap.size w4 wz)) (fun _ xv _ => t - (intOf xv).toNat)
        case atStart => exact ⟨0, 0, Nat.zero_le _, rfl, rfl, rfl, Below.refl _ _⟩
        case round =>
          obtain ⟨x, m, hx, rfl, rfl, hM, hB⟩ := hrel
          have hbs := hB.out.size
          have hmx := hits_le p s x
          rw [← hM.out] at hmx
          by_cases hltx : x < t
          · have HRP := Lib.hid (HRp.out.below hB.out)
            obtain ⟨B0, hB0⟩ : ∃ B0, wr.heap.size = B0 := ⟨_, rfl⟩
            have hBle : B0 ≤ wr.heap.size := by omega
            have hBge : wr.heap.size ≤ B0 := by omega
            have HBB0 := Lib.hid hBge; clear hBge hB0
            go_wp2_with fail
            go_loopw [11, 12, 13] (fun v yv jv wv => ∃ (j y : Nat), j ≤ s ∧ yv = .int .i64 y ∧ jv = .int .i64 j ∧ y ≤ x ∧ Hid (y = x / s ^ j) ∧ Hid (wv.ownsRow B0 3 1 v j (ints (digs s j x))) ∧ Hid (Below B0 wr wv)) (fun _ _ jv _ => s - (intOf jv).toNat)
            case atStart => exact ⟨0, x, Nat.zero_le _, rfl, rfl, Nat.le_refl _, by simp [Hid], Own.empty hBle, (Below.refl _ _).alloc hBle _⟩
            case round =>
              obtain ⟨j, y, hj, rfl, rfl, hyx, hY, ho, hb⟩ := hrel
              have hbz := hb.out.size
              by_cases hltj : j < s
              · obtain ⟨r, hr⟩ : ∃ r, y % s = r := ⟨_, rfl⟩
                obtain ⟨y2, hy2⟩ : ∃ y2, y / s = y2 := ⟨_, rfl⟩
                have hr4 : r < s := by rw [← hr]; exact Nat.mod_lt _ (by omega)
                have hy2l : y2 ≤ y := by rw [← hy2]; exact Nat.div_le_self _ _
                have g1 : (y : Int) % (s : Int) = (r : Int) := by rw [← hr]; omega
                have g1' : IntKind.i64.wrap ((y : Int).tmod (s : Int)) = (r : Int) := by rw [← hr, ← Int.ofNat_tmod]; exact IntWalk.i64_in _ (by have := Nat.mod_lt y (show 0 < s by omega); omega)
                have g2 : (y : Int) / (s : Int) = (y2 : Int) := by rw [← hy2]; exact (Int.natCast_ediv y s).symm
                have g2' : IntKind.i64.wrap ((y : Int).tdiv (s : Int)) = (y2 : Int) := by rw [← hy2, ← Int.ofNat_tdiv]; exact IntWalk.i64_in _ (by rw [hy2]; omega)
                have g3 : ¬ ((s : Int) = 0) := by omega
                have HRR := Lib.hid hr; have HY2 := Lib.hid hy2; clear hr hy2
                go_wp2_with (at_builtin; refine wpList_append_own _ rfl _ _ 23 rfl B0 3 i0 (.int .i64 0) 1 8 Try.underlying23 hinf hz0 hz1 hz2 rfl (by decide) _ _ _ rfl (ho.out.alloc _) ⟨wr.heap.size, 0, none⟩ 1 1 [.int .i64 r] rfl rfl (cell_one_new _ _ _) (by intro u hu; simp at hu; subst hu; rfl) (by unfold maxLen; omega) (by omega) (by simp; omega) ?_; intro v1 wq hown1 hgrow1 _)
                have HO := Lib.hid hown1; have HGR := Lib.hid hgrow1; clear hown1 hgrow1
                go_wp2_with fail
                go_roundw
                case rel =>
                  refine ⟨j + 1, y2, by omega, rfl, by go_num, by omega, ?_, ?_, ?_⟩
                  · rw [Hid, ← HY2.out, hY.out, Nat.div_div_eq_div_mul, Nat.pow_succ]
                  · have := HO.out
                    rw [Hid, digs_succ, ← hY.out, HRR.out, ints, List.map_append]
                    exact this
                  · exact (hb.out.alloc (by omega) _).grown HGR.out (by simp; omega) (fun j hj => (ho.out.lt j hj).1)
                case measure => simp [intOf]; omega
              · have hjs : j = s := by omega
                have hown : Own wr B0 u11 (digs s j x) := by unfold Own; rw [digs_len]; exact ho.out
                obtain ⟨Ad, cd, rfl, hrd, -⟩ := hown.form' (n := j) (digs_len s j x)
                have HRD := Lib.hid hrd; have HRPv := Lib.hid (HRP.out.keep (fun q hq => hb.out.cell (Nat.lt_of_lt_of_le hq HBB0.out)))
                obtain ⟨ok, ks, hty⟩ : ∃ ok ks, typeR (digs s j x) = (ok, ks) := ⟨_, _, rfl⟩
                obtain ⟨mk, hmk⟩ : ∃ mk, ks.length = mk := ⟨_, rfl⟩
                have hmk12 : mk ≤ 12 := by rw [← hmk]; exact typeR_len hty
                have HTY := Lib.hid hty; have HMK := Lib.hid hmk; have HJS := Lib.hid hjs
                clear hown ho hrd hty hmk hjs
                go_wp2_with fail
                refine (impl_typeR wr Ad cd j (digs s j x) HRD.out (by omega) HTY.out).mono ?_
                rintro e w5 ⟨v, rfl, o, b⟩
                obtain ⟨Ak, ck, rfl, hrk, -⟩ := o.form' HMK.out
                have HRK := Lib.hid hrk; have HRP5 := Lib.hid (HRPv.out.below b)
                have HB5 : Hid (Below w4.heap.size w4 w5) := hB.out.trans ((hb.out.trans (b.mono (Nat.le_trans hBle hbz))).mono (Nat.le_trans hbs HBB0.out))
                clear o b hrk
                cases ok with
                | false =>
                  have HNO : Hid (hits p s (x + 1) = hits p s x) := by
                    rw [Hid, hits, if_neg]
                    rw [hitB, decide_eq_true_eq, ← HJS.out]
                    have := HTY.out
                    intro h
                    rw [HJS.out] at h
                    rw [HJS.out] at this
                    rw [this] at h
                    cases h
                  go_wp2_with fail
                  go_roundw
                  case rel => exact ⟨x + 1, m, by omega, rfl, by go_num, by rw [Hid, HNO.out]; exact hM.out, HB5.out⟩
                  case measure => simp [intOf]; omega
                | true =>
                  obtain ⟨eb, heb⟩ : ∃ eb, eqB ks p = eb := ⟨_, rfl⟩
                  have HEB : Hid (hitB p s x = eb) := by
                    have := HTY.out
                    rw [HJS.out] at this
                    rw [Hid, hitB, this, ← heb, eqB]
                    simp
                  have HEQ := Lib.hid heb; clear heb
                  go_wp2_with fail
                  refine (sameInts_any Ak Ap mk np ck cp ks p w5 HRK.out HRP5.out (by unfold maxLen; omega) (by unfold maxLen; omega)).mono ?_
                  rintro e w6 ⟨rfl, q6, rfl⟩
                  rw [HEQ.out]
                  cases eb with
                  | false =>
                    have HNO : Hid (hits p s (x + 1) = hits p s x) := by rw [Hid, hits, if_neg (by rw [HEB.out]; simp)]
                    go_wp2_with fail
                    go_roundw
                    case rel => exact ⟨x + 1, m, by omega, rfl, by go_num, by rw [Hid, HNO.out]; exact hM.out, below_drewN HB5.out _⟩
                    case measure => simp [intOf]; omega
                  | true =>
                    have HYS : Hid (hits p s (x + 1) = hits p s x + 1) := by rw [Hid, hits, if_pos HEB.out]
                    go_wp2_with fail
                    go_roundw
                    case rel => exact ⟨x + 1, m + 1, by omega, by go_num, by go_num, by rw [Hid, HYS.out, ← hM.out], below_drewN HB5.out _⟩
                    case measure => simp [intOf]; omega
          · have hxt : x = t := by omega
            have HMC : Hid ((m : Int) = c) := by
              have := HF5.out (by omega)
              rw [← HA.out, ← hxt, ← hM.out] at this
              exact this
            have hmc : ((m : Int) == c) = true := by rw [HMC.out]; simp
            clear hxt
            go_wp2_with fail
            go_ret
            exact ⟨rfl, HB.out.trans (hB.out.mono hs)⟩
  · have HV := Lib.hid hv
    go_wp2_with fail
    refine (impl_csR w1 Ap cp np p HRp.out (by omega) (r := -1) (by rw [csR, if_neg hv])).mono ?_
    rintro e w2 ⟨rfl, b⟩
    have HR2 := Lib.hid (HRp.out.below b); have HB2 := Lib.hid (HB.out.trans (b.mono hs)); clear b
    go_wp2_with fail
    refine (spec_csR w2 Ap cp np p HR2.out (by omega) (r := -1) (by rw [csR, if_neg hv])).mono ?_
    rintro e w3 ⟨rfl, b⟩
    have HB3 := Lib.hid (HB2.out.trans (b.mono HB2.out.size)); clear b
    go_wp2_with fail
    go_ret
    exact ⟨rfl, HB3.out⟩

end Go.Proofs.Ytjfammlegpiihaa
