/-
  FnGluingPlanar: the walk of the law.
-/
import Derived.Test.YtcahnldbamjikaaGluG
import Derived.Test.YtcahnldbamjikaaGlB
import Derived.Test.YtcahnldbamjikaaDrawN
namespace Go.Proofs.Ytcahnldbamjikaa
open Go.RowKit
set_option linter.unusedVariables false

def fnd (p : List Int) : Nat → Bool
  | 0 => false
  | i + 1 => fnd p i || decide (gi p i = (i : Int) + 1)
theorem fnd_true {p : List Int} {i : Nat} (h : gi p i = (i : Int) + 1) : ∀ n, i < n → fnd p n = true
  | 0, h0 => absurd h0 (by omega)
  | n + 1, h0 => by
    unfold fnd
    by_cases e : i = n
    · subst e; simp [h]
    · rw [fnd_true h n (by omega)]; rfl
theorem cw_mono (p : List Int) (a b : Nat) : ∀ d, cw p a b ≤ cw p a (b + d)
  | 0 => Nat.le_refl _
  | d + 1 => by rw [← Nat.add_assoc, cw]; have := cw_mono p a b d; omega
theorem cws_mono (p : List Int) (a : Nat) : ∀ d, cws p a ≤ cws p (a + d)
  | 0 => Nat.le_refl _
  | d + 1 => by rw [← Nat.add_assoc, cws]; have := cws_mono p a d; omega
theorem none_cross {p : List Int} (h : cws p p.length = 0) {i k : Nat} (hi : i < p.length) (hk : k < p.length) (h1 : i < k) (h2 : (k : Int) < gi p i) : ¬ gi p k < i ∧ ¬ gi p i < gi p k := by
  have a := cws_mono p (i + 1) (p.length - (i + 1))
  rw [show i + 1 + (p.length - (i + 1)) = p.length by omega, h, cws] at a
  have b := cw_mono p i (k + 1) (p.length - (k + 1))
  rw [show k + 1 + (p.length - (k + 1)) = p.length by omega, cw] at b
  have c : cwN p i k = 0 := by omega
  rw [cwN] at c
  split at c
  · omega
  · rename_i hn; constructor <;> (intro e; apply hn; exact ⟨h1, h2, by first | exact .inl e | exact .inr e⟩)

set_option maxRecDepth 20000 in
set_option maxHeartbeats 6400000 in
theorem walk_FnGluingPlanar (A : Option Addr) (n c : Nat) (bs : List Int) (w : World) (h : RdB w A n bs) (hm : n ≤ maxLen ∧ n ≤ c) :
    Calls Try.prog 12 #[.slice A n c] w fun e w' => e = .returned (.bool true) ∧ Below w.heap.size w w' := by
  have HB0 := Lib.hid h
  have hc := hm.2
  clear h hm
  by_cases hbig : 1048576 < n
  · have hd : decide ((1048576 : Int) < n) = true := by simp; omega
    go_enter Try.func12, Try.ntmps12
    go_wp2
    go_ret
    exact ⟨rfl, Below.refl _ _⟩
  have hd : decide ((1048576 : Int) < n) = false := by simp; omega
  have hnb : n ≤ 1048576 := by omega
  go_enter Try.func12, Try.ntmps12
  go_wp2_with fail
  refine (dDrawGluingPlanar_any w A n c bs HB0.out hnb hc).mono ?_
  rintro x w1 ⟨v, ys, rfl, o, hl, b1⟩
  obtain ⟨m, hm⟩ : ∃ m, ys.length = m := ⟨_, rfl⟩
  obtain ⟨A1, c1, rfl, r1, -⟩ := o.form' hm
  have hm12 : m ≤ 12 := by omega
  have HB1 := Lib.hid b1; have HO1 := Lib.hid o; have HM := Lib.hid hm; clear b1 hbig hc HB0 hd hnb o r1 hl hm
  obtain ⟨r, hr⟩ : ∃ r, gplR ys = r := ⟨_, rfl⟩
  have HR := Lib.hid hr; clear hr
  have hrr : (r != r) = false := by simp
  have hrr2 : (r == r) = true := by simp
  go_wp2_with fail
  refine (impl_gplR w1 A1 c1 m ys (HO1.out.rd HM.out) (by omega) HR.out).mono ?_
  rintro x w2 ⟨rfl, b⟩
  have HB2 := Lib.hid (HB1.out.trans (b.mono HB1.out.size)); have HO2 := Lib.hid (HO1.out.below b); clear b
  go_wp2_with fail
  refine (spec_gplR w2 A1 c1 m ys (HO2.out.rd HM.out) (by omega) HR.out).mono ?_
  rintro x w3 ⟨rfl, b⟩
  have HB3 := Lib.hid (HB2.out.trans (b.mono HB2.out.size)); have HO3 := Lib.hid (HO2.out.below b); clear b
  cases r with
  | true =>
    have hgp := HR.out
    rw [gplR, Bool.and_eq_true] at hgp
    have hi := glu_iff.1 hgp.1
    have hch : chord ys = 0 := by simpa using hgp.2
    have ok := hi.ok
    have hcws : cws ys ys.length = 0 := by rw [ok.cws, hch]
    have HNC : Hid (∀ i k, i < m → k < m → i < k → (k : Int) < gi ys i → ¬ gi ys k < i ∧ ¬ gi ys i < gi ys k) := fun i k h1 h2 => none_cross hcws (by rw [HM.out]; exact h1) (by rw [HM.out]; exact h2)
    have HNEAR : Hid (fnd ys m = true) := by
      obtain ⟨i, hi2, he⟩ := ok.near hch
      rw [HM.out] at hi2
      exact fnd_true he m hi2
    have HGEN : Hid (ggenR ys = 0) := by rw [Hid, ggenR, if_pos hgp.1]; exact ok.genC.2 hch
    have HI := Lib.hid hi
    clear hgp hi hch ok hcws
    go_wp2_with fail
    go_loopw [6, 7, 8] (fun fv iv kv wr => ∃ (i q : Nat) (kz : Value), i ≤ m ∧ kv = kz ∧ iv = .int .i64 i ∧ fv = .bool (fnd ys i) ∧ wr = w3.drewN q) (fun _ iv _ _ => m - (intOf iv).toNat)
    case atStart => exact ⟨0, 0, _, Nat.zero_le _, rfl, rfl, rfl, rfl⟩
    case round =>
      obtain ⟨i, q, kz, hi, rfl, rfl, rfl, rfl⟩ := hrel
      obtain ⟨fv, hfv⟩ : ∃ fv, fnd ys i = fv := ⟨_, rfl⟩
      have HFV := Lib.hid hfv
      rw [hfv]
      clear hfv
      by_cases hlt : i < m
      · obtain ⟨ga, rfl, -, hca, -⟩ := HO3.out.cellAt HM.out hlt
        obtain ⟨e1, h1, h2, -⟩ := HI.out.gn_at (i := i) (by rw [HM.out]; exact hlt)
        obtain ⟨p, hp⟩ : ∃ p, gn ys i = p := ⟨_, rfl⟩
        rw [e1, hp] at hca
        rw [hp, HM.out] at h1
        have HP : Hid (gi ys i = (p : Int)) := by rw [Hid, e1, hp]
        obtain ⟨gv, hgv⟩ : ∃ gv, fnd ys (i + 1) = gv := ⟨_, rfl⟩
        have HGV := Lib.hid hgv
        have hp12 : p < 12 := by omega
        obtain ⟨eqv, heqv⟩ : ∃ b, ((p : Int) == (i : Int) + 1) = b := ⟨_, rfl⟩
        have hgv2 : gv = (fv || eqv) := by rw [← hgv, fnd, HFV.out, HP.out, ← heqv]; rfl
        have HEQ := Lib.hid heqv
        clear hgv e1 h2 hp
        cases fv with
        | true =>
          obtain rfl : gv = true := by rw [hgv2]; rfl
          clear hgv2 heqv
          go_wp2_with fail
          go_loopw [8] (fun kv wr => ∃ k q : Nat, i < k ∧ (k ≤ p ∨ k = i + 1) ∧ kv = .int .i64 k ∧ wr = w3.drewN q) (fun kv _ => m + 1 - (intOf kv).toNat)
          case atStart => exact ⟨i + 1, q, by omega, .inr rfl, by go_num, rfl⟩
          case round =>
            obtain ⟨k, q, hk1, hk2, rfl, rfl⟩ := hrel
            by_cases hkp : k < p
            · have hkm : k < m := by omega
              obtain ⟨_, e3, -, hck, -⟩ := HO3.out.cellAt HM.out hkm
              simp only [Option.some.injEq, Addr.mk.injEq, and_true] at e3
              subst e3
              obtain ⟨e2, g1, g2, -⟩ := HI.out.gn_at (i := k) (by rw [HM.out]; exact hkm)
              obtain ⟨u, hu⟩ : ∃ u, gn ys k = u := ⟨_, rfl⟩
              rw [e2, hu] at hck
              have hnc := HNC.out i k hlt hkm hk1 (by rw [HP.out]; omega)
              rw [HP.out, e2, hu] at hnc
              have hd1 : decide ((k : Int) < (p : Int)) = true := by simp; omega
              have hd2 : decide ((u : Int) < (i : Int)) = false := by simp; omega
              have hd2' : decide (u < i) = false := by simp; omega
              have hd3 : decide ((p : Int) < (u : Int)) = false := by simp; omega
              have hd3' : decide (p < u) = false := by simp; omega
              have HK1 := Lib.hid hk1; have HKP := Lib.hid hkp
              clear e2 hu g1 g2 hk2 hnc
              go_wp2_with fail
              go_quiet (fail)
              go_wp2_with fail
              go_roundw
              case rel => exact ⟨k + 1, _, by omega, .inl (by omega), by go_num, rfl⟩
              case measure => simp [intOf]; omega
            · have hd1 : decide ((k : Int) < (p : Int)) = false := by simp; omega
              have hd1' : decide (k < p) = false := by simpa using hkp
              go_wp2_with fail
              go_roundw
              case rel => exact ⟨i + 1, _, _, by omega, rfl, by go_num, by rw [HGV.out], rfl⟩
              case measure => simp [intOf]; omega
        | false =>
          obtain rfl : gv = eqv := by rw [hgv2]; rfl
          clear hgv2
          go_wp2_with fail
          go_loopw [8] (fun kv wr => ∃ k q : Nat, i < k ∧ (k ≤ p ∨ k = i + 1) ∧ kv = .int .i64 k ∧ wr = w3.drewN q) (fun kv _ => m + 1 - (intOf kv).toNat)
          case atStart => exact ⟨i + 1, q, by omega, .inr rfl, by go_num, rfl⟩
          case round =>
            obtain ⟨k, q, hk1, hk2, rfl, rfl⟩ := hrel
            by_cases hkp : k < p
            · have hkm : k < m := by omega
              obtain ⟨_, e3, -, hck, -⟩ := HO3.out.cellAt HM.out hkm
              simp only [Option.some.injEq, Addr.mk.injEq, and_true] at e3
              subst e3
              obtain ⟨e2, g1, g2, -⟩ := HI.out.gn_at (i := k) (by rw [HM.out]; exact hkm)
              obtain ⟨u, hu⟩ : ∃ u, gn ys k = u := ⟨_, rfl⟩
              rw [e2, hu] at hck
              have hnc := HNC.out i k hlt hkm hk1 (by rw [HP.out]; omega)
              rw [HP.out, e2, hu] at hnc
              have hd1 : decide ((k : Int) < (p : Int)) = true := by simp; omega
              have hd2 : decide ((u : Int) < (i : Int)) = false := by simp; omega
              have hd2' : decide (u < i) = false := by simp; omega
              have hd3 : decide ((p : Int) < (u : Int)) = false := by simp; omega
              have hd3' : decide (p < u) = false := by simp; omega
              have HK1 := Lib.hid hk1; have HKP := Lib.hid hkp
              clear e2 hu g1 g2 hk2 hnc
              go_wp2_with fail
              go_quiet (fail)
              go_wp2_with fail
              go_roundw
              case rel => exact ⟨k + 1, _, by omega, .inl (by omega), by go_num, rfl⟩
              case measure => simp [intOf]; omega
            · have hd1 : decide ((k : Int) < (p : Int)) = false := by simp; omega
              have hd1' : decide (k < p) = false := by simpa using hkp
              go_wp2_with fail
              go_roundw
              case rel => exact ⟨i + 1, _, _, by omega, rfl, by go_num, by rw [HGV.out], rfl⟩
              case measure => simp [intOf]; omega
      · obtain rfl : i = m := by omega
        obtain rfl : fv = true := by rw [← HFV.out]; exact HNEAR.out
        have HB4 := Lib.hid (below_drewN HB3.out q)
        have HO4 : Hid (Own (w3.drewN q) w.heap.size (.slice A1 i c1) ys) := HO3
        clear hlt
        go_wp2_with fail
        refine (impl_ggenR (w3.drewN q) A1 c1 i ys (HO4.out.rd HM.out) (by omega) HGEN.out).mono ?_
        rintro x w5 ⟨rfl, b⟩
        have HB5 := Lib.hid (HB4.out.trans (b.mono HB4.out.size)); clear b
        go_wp2_with fail
        go_ret
        exact ⟨rfl, HB5.out⟩
  | false =>
    go_wp2_with fail
    go_ret
    exact ⟨rfl, HB3.out⟩

end Go.Proofs.Ytcahnldbamjikaa
