/-
  FnChord: the walk of the law.
-/
import Derived.Test.YtcahnldbamjikaaGluD
import Derived.Test.YtcahnldbamjikaaGlB
import Derived.Test.YtcahnldbamjikaaDrawN
namespace Go.Proofs.Ytcahnldbamjikaa
open Go.RowKit
set_option linter.unusedVariables false

theorem cw_le (p : List Int) (a : Nat) : ∀ b, cw p a b ≤ b
  | 0 => Nat.le_refl _
  | b + 1 => by rw [cw, cwN]; have := cw_le p a b; split <;> omega
theorem cws_le (p : List Int) : ∀ a, cws p a ≤ a * p.length
  | 0 => by simp [cws]
  | a + 1 => by rw [cws, Nat.succ_mul]; have := cws_le p a; have := cw_le p a p.length; omega

set_option maxRecDepth 20000 in
set_option maxHeartbeats 6400000 in
theorem walk_FnChord (A : Option Addr) (n c : Nat) (bs : List Int) (w : World) (h : RdB w A n bs) (hm : n ≤ maxLen ∧ n ≤ c) :
    Calls Try.prog 11 #[.slice A n c] w fun e w' => e = .returned (.bool true) ∧ Below w.heap.size w w' := by
  have HB0 := Lib.hid h
  have hc := hm.2
  clear h hm
  by_cases hbig : 1048576 < n
  · have hd : decide ((1048576 : Int) < n) = true := by simp; omega
    go_enter Try.func11, Try.ntmps11
    go_wp2
    go_ret
    exact ⟨rfl, Below.refl _ _⟩
  have hd : decide ((1048576 : Int) < n) = false := by simp; omega
  have hnb : n ≤ 1048576 := by omega
  go_enter Try.func11, Try.ntmps11
  go_wp2_with fail
  refine (dDrawGluingChord_any w A n c bs HB0.out hnb hc).mono ?_
  rintro x w1 ⟨v, ys, rfl, o, hl, b1⟩
  obtain ⟨m, hm⟩ : ∃ m, ys.length = m := ⟨_, rfl⟩
  obtain ⟨A1, c1, rfl, r1, -⟩ := o.form' hm
  have hm12 : m ≤ 12 := by omega
  have HB1 := Lib.hid b1; have HO1 := Lib.hid o; have HM := Lib.hid hm; clear b1 hbig hc HB0 hd hnb o r1 hl hm
  obtain ⟨r, hr⟩ : ∃ r, gchR ys = r := ⟨_, rfl⟩
  have HR := Lib.hid hr; clear hr
  have hrr : (r != r) = false := by simp
  have hrr2 : (r == r) = true := by simp
  go_wp2_with fail
  refine (impl_gchR w1 A1 c1 m ys (HO1.out.rd HM.out) (by omega) HR.out).mono ?_
  rintro x w2 ⟨rfl, b⟩
  have HB2 := Lib.hid (HB1.out.trans (b.mono HB1.out.size)); have HO2 := Lib.hid (HO1.out.below b); clear b
  go_wp2_with fail
  refine (spec_gchR w2 A1 c1 m ys (HO2.out.rd HM.out) (by omega) HR.out).mono ?_
  rintro x w3 ⟨rfl, b⟩
  have HB3 := Lib.hid (HB2.out.trans (b.mono HB2.out.size)); have HO3 := Lib.hid (HO2.out.below b); clear b
  by_cases hg : glu ys = true
  · have hi := glu_iff.1 hg
    have ok := hi.ok
    obtain ⟨ch, hch⟩ : ∃ ch, chord ys = ch := ⟨_, rfl⟩
    obtain rfl : r = (ch : Int) := by rw [← HR.out, gchR, if_pos hg, hch]
    have hch2 : ch ≤ 144 := by
      have := chN_le ys ys.length
      have h10 := hi.2.1
      rw [← hch]
      exact Nat.le_trans this (by have : ys.length * ys.length ≤ 10 * 10 := Nat.mul_le_mul h10 h10; omega)
    have hcd : decide ((ch : Int) < 0) = false := by simp
    have e1 := ok.cws; have e2 := ok.most
    rw [hch, HM.out] at e1 e2
    obtain ⟨hf, hhf⟩ : ∃ h, m / 2 = h := ⟨_, rfl⟩
    rw [hhf] at e2
    have hw : IntKind.i64.wrap ((m : Int) / 2) = (hf : Int) := by rw [IntWalk.i64_in _ (by omega)]; omega
    have hdv : (m : Int) / 2 = (hf : Int) := by omega
    have hh6 : hf ≤ 6 := by omega
    have hmul : IntKind.i64.wrap ((hf : Int) * ((hf : Int) - 1)) = (hf : Int) * ((hf : Int) - 1) := by
      rcases (show hf = 0 ∨ hf = 1 ∨ hf = 2 ∨ hf = 3 ∨ hf = 4 ∨ hf = 5 ∨ hf = 6 by omega) with rfl | rfl | rfl | rfl | rfl | rfl | rfl <;> exact IntWalk.i64_in _ (by omega)
    have hle : decide (2 * (ch : Int) ≤ (hf : Int) * ((hf : Int) - 1)) = true := decide_eq_true e2
    have HI := Lib.hid hi; have HE1 := Lib.hid e1; have HLE := Lib.hid hle; have HMUL := Lib.hid hmul
    clear hg hi ok hch e1 e2 hhf hle hmul
    go_wp2_with fail
    go_loopw [7, 8, 9] (fun sv iv kv wr => ∃ (i q : Nat) (kz : Value), i ≤ m ∧ kv = kz ∧ iv = .int .i64 i ∧ sv = .int .i64 (cws ys i : Nat) ∧ wr = w3.drewN q) (fun _ iv _ _ => m - (intOf iv).toNat)
    case atStart => exact ⟨0, 0, _, Nat.zero_le _, rfl, rfl, rfl, rfl⟩
    case round =>
      obtain ⟨i, q, kz, hi, rfl, rfl, rfl, rfl⟩ := hrel
      have hcw := cw_le ys i
      have hcs : cws ys i ≤ i * 12 := Nat.le_trans (cws_le ys i) (Nat.mul_le_mul_left i (by rw [HM.out]; omega))
      obtain ⟨sv, hsv⟩ : ∃ sv, cws ys i = sv := ⟨_, rfl⟩
      have HSV := Lib.hid hsv
      rw [hsv] at hcs ⊢
      by_cases hlt : i < m
      · obtain ⟨ga, rfl, -, hca, -⟩ := HO3.out.cellAt HM.out hlt
        obtain ⟨e1, h1, h2, -⟩ := HI.out.gn_at (i := i) (by rw [HM.out]; exact hlt)
        obtain ⟨p, hp⟩ : ∃ p, gn ys i = p := ⟨_, rfl⟩
        rw [e1, hp] at hca
        rw [hp, HM.out] at h1
        have HP : Hid (gi ys i = (p : Int)) := by rw [Hid, e1, hp]
        have hcz : cw ys i (i + 1) = 0 := by
          have : ∀ b, b ≤ i + 1 → cw ys i b = 0 := by
            intro b
            induction b with
            | zero => intro _; rfl
            | succ b ih => intro h; rw [cw, ih (by omega), cwN, if_neg (by omega)]
          exact this _ (Nat.le_refl _)
        have HCZ := Lib.hid hcz
        have HCW := Lib.hid hcw
        have hp12 : p < 12 := by omega
        clear hsv hcz hcw e1 h2 hp
        go_wp2_with fail
        go_loopw [7, 9] (fun sv' kv wr => ∃ k q : Nat, i < k ∧ (k ≤ p ∨ k = i + 1) ∧ kv = .int .i64 k ∧ sv' = .int .i64 (sv + cw ys i k : Nat) ∧ wr = w3.drewN q) (fun _ kv _ => m + 1 - (intOf kv).toNat)
        case atStart => exact ⟨i + 1, q, by omega, .inr rfl, by go_num, by rw [HCZ.out]; rfl, rfl⟩
        case round =>
          obtain ⟨k, q, hk1, hk2, rfl, rfl, rfl⟩ := hrel
          have hc12 := HCW.out k
          obtain ⟨t, ht⟩ : ∃ t, cw ys i k = t := ⟨_, rfl⟩
          have HT := Lib.hid ht
          rw [ht] at hc12 ⊢
          clear ht
          by_cases hkp : k < p
          · have hkm : k < m := by omega
            obtain ⟨_, e3, -, hck, -⟩ := HO3.out.cellAt HM.out hkm
            simp only [Option.some.injEq, Addr.mk.injEq, and_true] at e3
            subst e3
            obtain ⟨e2, g1, g2, -⟩ := HI.out.gn_at (i := k) (by rw [HM.out]; exact hkm)
            obtain ⟨u, hu⟩ : ∃ u, gn ys k = u := ⟨_, rfl⟩
            rw [e2, hu] at hck
            have HU : Hid (gi ys k = (u : Int)) := by rw [Hid, e2, hu]
            have hd1 : decide ((k : Int) < (p : Int)) = true := by simp; omega
            have HK1 := Lib.hid hk1; have HK2 := Lib.hid hk2; have HKP := Lib.hid hkp
            clear e2 hu g1 g2 hk2
            by_cases hui : u < i
            · have hd2 : decide ((u : Int) < (i : Int)) = true := by simp; omega
              have hd2' : decide (u < i) = true := by simpa using hui
              have hstep : cw ys i (k + 1) = t + 1 := by rw [cw, HT.out, cwN, if_pos ⟨hk1, by rw [HP.out]; omega, .inl (by rw [HU.out]; omega)⟩]
              have HST := Lib.hid hstep; clear hstep
              go_wp2_with fail
              go_quiet (fail)
              go_wp2_with fail
              go_roundw
              case rel => exact ⟨k + 1, _, by omega, .inl (by omega), by go_num, by rw [HST.out]; go_num, rfl⟩
              case measure => simp [intOf]; omega
            · have hd2 : decide ((u : Int) < (i : Int)) = false := by simp; omega
              have hd2' : decide (u < i) = false := by simpa using hui
              by_cases hup : p < u
              · have hd3 : decide ((p : Int) < (u : Int)) = true := by simp; omega
                have hd3' : decide (p < u) = true := by simpa using hup
                have hstep : cw ys i (k + 1) = t + 1 := by rw [cw, HT.out, cwN, if_pos ⟨hk1, by rw [HP.out]; omega, .inr (by rw [HU.out, HP.out]; omega)⟩]
                have HST := Lib.hid hstep; clear hstep
                go_wp2_with fail
                go_quiet (fail)
                go_wp2_with fail
                go_roundw
                case rel => exact ⟨k + 1, _, by omega, .inl (by omega), by go_num, by rw [HST.out]; go_num, rfl⟩
                case measure => simp [intOf]; omega
              · have hd3 : decide ((p : Int) < (u : Int)) = false := by simp; omega
                have hd3' : decide (p < u) = false := by simpa using hup
                have hstep : cw ys i (k + 1) = t := by rw [cw, HT.out, cwN, if_neg (by rw [HU.out, HP.out]; omega), Nat.add_zero]
                have HST := Lib.hid hstep; clear hstep
                go_wp2_with fail
                go_quiet (fail)
                go_wp2_with fail
                go_roundw
                case rel => exact ⟨k + 1, _, by omega, .inl (by omega), by go_num, by rw [HST.out], rfl⟩
                case measure => simp [intOf]; omega
          · have hd1 : decide ((k : Int) < (p : Int)) = false := by simp; omega
            have hd1' : decide (k < p) = false := by simpa using hkp
            have hend : cws ys (i + 1) = sv + t := by
              rw [cws, HSV.out, HM.out]
              have hz : ∀ d, cw ys i (k + d) = cw ys i k := by
                intro d
                induction d with
                | zero => rfl
                | succ d ih => rw [← Nat.add_assoc, cw, ih, cwN, if_neg (by rw [HP.out]; omega), Nat.add_zero]
              have := hz (m - k)
              rw [show k + (m - k) = m by omega, HT.out] at this
              rw [this]
            have HEN := Lib.hid hend; clear hend
            go_wp2_with fail
            go_roundw
            case rel => exact ⟨i + 1, _, _, by omega, rfl, by go_num, by rw [HEN.out], rfl⟩
            case measure => simp [intOf]; omega
      · obtain rfl : i = m := by omega
        have hs2 : sv = 2 * ch := by rw [← hsv]; exact HE1.out
        subst hs2
        have hq1 : (((2 * ch : Nat) : Int) == 2 * (ch : Int)) = true := by simp
        have hq2 : ((2 * (ch : Int)) == 2 * (ch : Int)) = true := by simp
        have hle := HLE.out
        have hmul := HMUL.out
        clear hlt hsv hcs hcw
        go_wp2_with fail
        go_ret
        exact ⟨rfl, below_drewN HB3.out _⟩
  · obtain rfl : r = -1 := by rw [← HR.out, gchR, if_neg hg]
    go_wp2_with fail
    go_ret
    exact ⟨rfl, HB3.out⟩

end Go.Proofs.Ytcahnldbamjikaa
