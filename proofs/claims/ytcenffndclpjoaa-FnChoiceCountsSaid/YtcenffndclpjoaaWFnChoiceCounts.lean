/-
  FnChoiceCounts: the walk of the law.
-/
import Derived.Test.YtcenffndclpjoaaLawMap
import Derived.Test.YtcenffndclpjoaaDrawCho
import Derived.Test.YtcenffndclpjoaaSubE
import Derived.Test.YtcenffndclpjoaaGenus
import Derived.Test.YtcenffndclpjoaaAbove
namespace Go.Proofs.Ytcenffndclpjoaa
open Go.RowKit

def hasC (xs : List Int) (m : Int) : Bool := xs.any fun x => x == m
theorem hasC_iff {xs : List Int} {m : Int} : hasC xs m = true ↔ ∃ j, j < xs.length ∧ gi xs j = m := by
  unfold hasC
  rw [List.any_eq_true]
  constructor
  · rintro ⟨x, hx, e⟩
    obtain ⟨j, hj, rfl⟩ := List.getElem_of_mem hx
    exact ⟨j, hj, by rw [gi_eq hj]; simpa using e⟩
  · rintro ⟨j, hj, e⟩
    exact ⟨gi xs j, by rw [gi_eq hj]; exact List.getElem_mem hj, by simpa using e⟩


set_option maxHeartbeats 800000 in
theorem hasC_any (A : Option Addr) (n c : Nat) (m : Int) (xs : List Int) (w : World) (h : Rd w A n xs) (hn : n ≤ 1048576) :
    Calls Try.prog 13 #[.slice A n c, .int .i64 m] w fun e w' => e = .returned (.bool (hasC xs m)) ∧ w = w' := by
  have H := Lib.hid h; have Hx := Lib.hid h.1; clear h
  go_enter Try.func13, Try.ntmps13
  go_wp2_with fail
  go_loop [5] (fun i => ∃ k : Nat, k ≤ n ∧ i = .int .i64 k ∧ Hid (∀ j, j < k → gi xs j ≠ m)) (fun i => n - (intOf i).toNat)
  case atStart => exact ⟨0, Nat.zero_le _, rfl, fun j hj => absurd hj (by omega)⟩
  case round =>
    obtain ⟨k, hk, rfl, hall⟩ := hrel
    by_cases hlt : k < n
    · obtain ⟨ad, rfl, hc⟩ := H.out.at_ hlt
      by_cases he : gi xs k = m
      · have he' : (gi xs k == m) = true := by simp [he]
        have HE : Hid (hasC xs m = true) := hasC_iff.2 ⟨k, by rw [Hx.out]; exact hlt, he⟩
        clear he
        go_wp2
        go_ret
        exact ⟨ret_bool HE.out.symm, rfl⟩
      · have he' : (gi xs k == m) = false := by simp [he]
        have HE := Lib.hid he; clear he
        go_wp2
        go_round
        case rel => exact ⟨k + 1, by omega, by go_num, fun j hj => by
          by_cases e : j = k
          · subst e; exact HE.out
          · exact hall.out j (by omega)⟩
        case measure => simp [intOf]; omega
    · have HE : Hid (hasC xs m = false) := by
        rw [Hid, Bool.eq_false_iff]
        intro hh
        obtain ⟨j, hj, e⟩ := hasC_iff.1 hh
        rw [Hx.out] at hj
        exact hall.out j (by omega) e
      go_wp2
      go_ret
      exact ⟨ret_bool HE.out.symm, rfl⟩


set_option maxRecDepth 100000 in
set_option maxHeartbeats 6400000 in
theorem walk_FnChoiceCounts (A0 : Option Addr) (n0 c0 : Nat) (bs0 : List Int) (A1 : Option Addr) (n1 c1 : Nat) (bs1 : List Int) (w : World) (h0 : RdB w A0 n0 bs0) (hm0 : n0 ≤ maxLen ∧ n0 ≤ c0) (h1 : RdB w A1 n1 bs1) (hm1 : n1 ≤ maxLen ∧ n1 ≤ c1) :
    Calls Try.prog 3 #[.slice A0 n0 c0, .slice A1 n1 c1] w fun e w' => e = .returned (.bool true) ∧ Below w.heap.size w w' := by
  have HB0_0 := Lib.hid h0; have hc0 := hm0.2; have hml0 := hm0.1; clear h0 hm0; unfold maxLen at hml0
  have HB0_1 := Lib.hid h1; have hc1 := hm1.2; have hml1 := hm1.1; clear h1 hm1; unfold maxLen at hml1
  by_cases hbig0 : 1048576 < n0
  · have hd : decide ((1048576 : Int) < n0) = true := by simp; omega
    go_enter Try.func3, Try.ntmps3
    go_wp2
    go_ret
    exact ⟨rfl, Below.refl _ _⟩
  have hd0 : decide ((1048576 : Int) < n0) = false := by simp; omega
  have hnb0 : n0 ≤ 1048576 := by omega
  clear hbig0
  by_cases hbig1 : 1048576 < n1
  · have hd : decide ((1048576 : Int) < n1) = true := by simp; omega
    go_enter Try.func3, Try.ntmps3
    go_wp2
    go_ret
    exact ⟨rfl, Below.refl _ _⟩
  have hd1 : decide ((1048576 : Int) < n1) = false := by simp; omega
  have hnb1 : n1 ≤ 1048576 := by omega
  clear hbig1
  go_enter Try.func3, Try.ntmps3
  go_wp2_with fail
  refine (drawChoiceCounts_any w A0 n0 c0 bs0 HB0_0.out hnb0 hc0).mono ?_
  rintro e w1 ⟨Am, Am', nm, nm', cm, cm', t, f, v, xs, rfl, r1, r2, hlm, hlm', o, hlz, b⟩
  obtain ⟨nz, hn⟩ : ∃ n, xs.length = n := ⟨_, rfl⟩
  rw [hn] at hlz
  obtain ⟨Az, cz, rfl, -, -⟩ := o.form' hn
  have HRz := Lib.hid (o.rd hn); have HNz := Lib.hid hn; clear o hn
  have HNm := Lib.hid r1.1; have HNm' := Lib.hid r2.1; have HRm := Lib.hid r1; have HRm' := Lib.hid r2; clear r1 r2
  have HB := Lib.hid b; have hs := b.size; clear b
  obtain ⟨w2, hWw2, hx, b, hz⟩ := Box.local_ w1 25 (.slice Am nm cm) (.slice Am' nm' cm')
  have BXm := Lib.hid hx; clear hx hz
  replace HRm := Lib.hid (HRm.out.below b)
  replace HRm' := Lib.hid (HRm'.out.below b)
  replace HRz := Lib.hid (HRz.out.below b)
  replace HB := Lib.hid (HB.out.trans (b.mono hs)); replace hs := HB.out.size
  clear b
  have cm_0 := BXm.out.cell0; have cm_1 := BXm.out.cell1
  cases hv : chV t f xs with
  | true =>
    obtain ⟨hm, h6, s, hs2, hxs, hs64, hsof⟩ := chV_bits hv
    obtain ⟨a2, a3, own, P, S, f1, f2, f3, f4, f5, f6, f7, f8, f9, f10, f11, f12, f13, f14, f15⟩ := counts_facts hm h6 hs2 hs64
    have c1 : ccR t f xs = (true, [(P : Int), (S : Int), a2, a3, own]) := by rw [ccR, if_pos hv, hsof, f1]
    have HM := Lib.hid hm; have HV := Lib.hid hv
    obtain rfl : nm = nm' := by have := hm.len; rw [HNm.out, HNm'.out] at this; exact this
    have hE1 : 1 ≤ f.length / 2 := by have h1 := flip_even hm.flip hm.paired; have h2 := hm.turn.1; have h3 := hm.len; omega
    have hmore := fun (e : Nat) (he : e < f.length / 2) (hb : s.testBit e = false) => more_facts hm hs2 hs64 he hb
    have hhas : ∀ i : Nat, i < f.length / 2 → hasC xs (i : Int) = s.testBit i := fun i hi => by rw [← hxs]; exact has_bits s hs64 i (by omega)
    simp only [← f2, ← f3] at hmore
    obtain ⟨E, hE⟩ : ∃ E, f.length / 2 = E := ⟨_, rfl⟩
    obtain ⟨V, hV⟩ : ∃ V, cntV t = V := ⟨_, rfl⟩
    obtain ⟨F, hF⟩ : ∃ F, cntF t f = F := ⟨_, rfl⟩
    obtain ⟨g, hgg⟩ : ∃ g, genusOf t f = g := ⟨_, rfl⟩
    rw [hxs, HNz.out] at f4 f5 f12
    rw [hV] at f5 f11
    rw [hgg] at f7
    rw [hE] at h6 hE1 hmore hhas
    have C1 := Lib.hid c1; have HMO := Lib.hid hmore; have HHA := Lib.hid hhas; have HE : Hid (cntE f = E) := hE; have HVV := Lib.hid hV; have HF := Lib.hid hF
    have HG : Hid (genusR t f = g) := by rw [Hid, genusR, if_pos (mapV_iff.2 hm)]; exact hgg
    have hw1 : IntKind.i64.wrap (a2 + a3) = (nz : Int) := by rw [f4]; exact IntWalk.i64_in _ (by omega)
    have hw2 : IntKind.i64.wrap (2 * (P : Int)) = 2 * (P : Int) := IntWalk.i64_in _ (by omega)
    have hw3 : IntKind.i64.wrap (2 * (P : Int) - V) = 2 * (P : Int) - V := IntWalk.i64_in _ (by omega)
    have hw4 : IntKind.i64.wrap (2 * (P : Int) - V + nz) = 2 * (P : Int) - V + nz := IntWalk.i64_in _ (by omega)
    have hw5 : IntKind.i64.wrap (2 * (P : Int) - V + nz - S) = 2 * own := by rw [f5]; exact IntWalk.i64_in _ (by omega)
    have hw6 : IntKind.i64.wrap (2 * own) = 2 * own := IntWalk.i64_in _ (by omega)
    have hn1' : ((nz : Int) != (nz : Int)) = false := by simp
    have hn2 : (2 * own != 2 * own) = false := by simp
    have hn3 : decide (own < 0) = false := by simp; omega
    have hn4 : decide (g < own) = false := by simp; omega
    have hn5 : decide (a3 < 0) = false := by simp; omega
    have hroot : ((n1 : Nat) : Int).tmod (E : Int) = ((n1 % E : Nat) : Int) := rfl
    obtain ⟨ed, hed⟩ : ∃ ed, n1 % E = ed := ⟨_, rfl⟩
    have hedE : ed < E := by rw [← hed]; exact Nat.mod_lt _ (by omega)
    rw [hed] at hroot
    have hz1 : ¬ ((E : Int) = 0) := by omega
    have hz2 : ((E : Int) == 0) = false := by simp; omega
    have hz3 : IntKind.i64.wrap (ed : Int) = (ed : Int) := IntWalk.i64_in _ (by omega)
    clear c1 hmore hhas hE hV hF hgg hm hv f1 f2 f3 f4 f5 f6 f7 f8 hxs hs2 hsof hed
    go_wp2_with fail
    refine (impl_ccR w2 Am Am' nm nm cm cm' t f HRm.out HRm'.out (by omega) (by omega) Az cz nz xs HRz.out (by omega) (ok := true) (ys := [(P : Int), (S : Int), a2, a3, own]) (C1.out)).mono ?_
    rintro e w3 ⟨v, rfl, o, b⟩
    have hl : ([(P : Int), (S : Int), a2, a3, own] : List Int).length = 5 := rfl
    obtain ⟨Al, cl, rfl, -, -⟩ := o.form' hl
    obtain ⟨gl, rfl, -, -, -⟩ := o.cellAt hl (k := 0) (by omega)
    have HRl := Lib.hid (o.rd hl); clear o hl
    replace HRm := Lib.hid (HRm.out.below b)
    replace HRm' := Lib.hid (HRm'.out.below b)
    replace HRz := Lib.hid (HRz.out.below b)
    replace BXm := Lib.hid (BXm.out.below b); replace cm_0 := BXm.out.cell0; replace cm_1 := BXm.out.cell1
    replace HB := Lib.hid (HB.out.trans (b.mono hs)); replace hs := HB.out.size
    clear b
    go_wp2_with fail
    refine (spec_ccR w3 Am Am' nm nm cm cm' t f HRm.out HRm'.out (by omega) (by omega) Az cz nz xs HRz.out (by omega) (ok := true) (ys := [(P : Int), (S : Int), a2, a3, own]) (C1.out)).mono ?_
    rintro e w4 ⟨v, rfl, o, b⟩
    have hl : ([(P : Int), (S : Int), a2, a3, own] : List Int).length = 5 := rfl
    obtain ⟨Aq, cq, rfl, -, -⟩ := o.form' hl
    have HRq := Lib.hid (o.rd hl); clear o hl
    replace HRm := Lib.hid (HRm.out.below b)
    replace HRm' := Lib.hid (HRm'.out.below b)
    replace HRz := Lib.hid (HRz.out.below b)
    replace HRl := Lib.hid (HRl.out.below b)
    replace BXm := Lib.hid (BXm.out.below b); replace cm_0 := BXm.out.cell0; replace cm_1 := BXm.out.cell1
    replace HB := Lib.hid (HB.out.trans (b.mono hs)); replace hs := HB.out.size
    clear b
    go_wp2_with fail
    refine (same_yes w4 (some ⟨gl, 0, none⟩) Aq 5 5 cl cq ([(P : Int), (S : Int), a2, a3, own]) ([(P : Int), (S : Int), a2, a3, own]) HRl.out HRq.out (by omega) (by omega) (rfl)).mono ?_
    rintro e w5 ⟨rfl, b⟩
    replace HRm := Lib.hid (HRm.out.below b)
    replace HRm' := Lib.hid (HRm'.out.below b)
    replace HRz := Lib.hid (HRz.out.below b)
    replace HRl := Lib.hid (HRl.out.below b)
    replace HRq := Lib.hid (HRq.out.below b)
    replace BXm := Lib.hid (BXm.out.below b); replace cm_0 := BXm.out.cell0; replace cm_1 := BXm.out.cell1
    replace HB := Lib.hid (HB.out.trans (b.mono hs)); replace hs := HB.out.size
    clear b
    clear HRq
    go_wp2_with fail
    refine (impl_countsR w5 Am Am' nm nm cm cm' t f HRm.out HRm'.out (by omega) (by omega) (ok := true) (ys := [(V : Int), (E : Int), (F : Int)]) (by rw [countsR, if_pos (mapV_iff.2 HM.out), HVV.out, HE.out, HF.out])).mono ?_
    rintro e w6 ⟨v, rfl, o, b⟩
    have hl : ([(V : Int), (E : Int), (F : Int)] : List Int).length = 3 := rfl
    obtain ⟨Aa, ca, rfl, -, -⟩ := o.form' hl
    obtain ⟨ga, rfl, -, -, -⟩ := o.cellAt hl (k := 0) (by omega)
    have HRa := Lib.hid (o.rd hl); clear o hl
    replace HRm := Lib.hid (HRm.out.below b)
    replace HRm' := Lib.hid (HRm'.out.below b)
    replace HRz := Lib.hid (HRz.out.below b)
    replace HRl := Lib.hid (HRl.out.below b)
    replace BXm := Lib.hid (BXm.out.below b); replace cm_0 := BXm.out.cell0; replace cm_1 := BXm.out.cell1
    replace HB := Lib.hid (HB.out.trans (b.mono hs)); replace hs := HB.out.size
    clear b
    have qa0 : w6.cell? ⟨ga, 0, none⟩ = some (.int .i64 (V : Int)) := HRa.out.getg (j := 0) (by omega)
    have ql0 : w6.cell? ⟨gl, 0, none⟩ = some (.int .i64 (P : Int)) := HRl.out.getg (j := 0) (by omega)
    have ql1 : w6.cell? ⟨gl, 1, none⟩ = some (.int .i64 (S : Int)) := HRl.out.getg (j := 1) (by omega)
    have ql2 : w6.cell? ⟨gl, 2, none⟩ = some (.int .i64 a2) := HRl.out.getg (j := 2) (by omega)
    have ql3 : w6.cell? ⟨gl, 3, none⟩ = some (.int .i64 a3) := HRl.out.getg (j := 3) (by omega)
    have ql4 : w6.cell? ⟨gl, 4, none⟩ = some (.int .i64 own) := HRl.out.getg (j := 4) (by omega)
    have ka0 : ∀ p : Above w6, p.to.cell? ⟨ga, 0, none⟩ = some (.int .i64 (V : Int)) := fun p => (HRa.out.below p.b).getg (j := 0) (by omega)
    have kl0 : ∀ p : Above w6, p.to.cell? ⟨gl, 0, none⟩ = some (.int .i64 (P : Int)) := fun p => (HRl.out.below p.b).getg (j := 0) (by omega)
    have kl1 : ∀ p : Above w6, p.to.cell? ⟨gl, 1, none⟩ = some (.int .i64 (S : Int)) := fun p => (HRl.out.below p.b).getg (j := 1) (by omega)
    have kl2 : ∀ p : Above w6, p.to.cell? ⟨gl, 2, none⟩ = some (.int .i64 a2) := fun p => (HRl.out.below p.b).getg (j := 2) (by omega)
    have kl3 : ∀ p : Above w6, p.to.cell? ⟨gl, 3, none⟩ = some (.int .i64 a3) := fun p => (HRl.out.below p.b).getg (j := 3) (by omega)
    have kl4 : ∀ p : Above w6, p.to.cell? ⟨gl, 4, none⟩ = some (.int .i64 own) := fun p => (HRl.out.below p.b).getg (j := 4) (by omega)
    have km_0 := fun p : Above w6 => (BXm.out.below p.b).cell0; have km_1 := fun p : Above w6 => (BXm.out.below p.b).cell1
    have HCm : Hid (∀ p : Above w6, Calls Try.prog 12 #[.agg #[.slice Am nm cm, .slice Am' nm cm']] p.to fun e w'' => e = .returned (.int .i64 g) ∧ ∃ q : Above w6, w'' = q.to) := fun p => Above.calls (impl_genusR _ Am Am' nm nm cm cm' t f (HRm.out.below p.b) (HRm'.out.below p.b) (by omega) (by omega) HG.out)
    go_wp2_with fail
    refine wp_region_quiet_above (by kernel_rfl) (by kernel_rfl) ?_
    repeat (quiet_step (first | (go_at_call 12; with_reducible exact HCm.out _)))
    refine wpQuiet_nil ?_
    intro _ hw'
    obtain ⟨pq, hw''⟩ := hw'
    subst hw''
    have b := pq.b
    clear HCm km_0 km_1 ka0 kl0 kl1 kl2 kl3 kl4 qa0 ql0 ql1 ql2 ql3 ql4
    obtain ⟨w7, hpq⟩ : ∃ x, pq.to = x := ⟨_, rfl⟩
    rw [hpq] at b ⊢
    clear hpq pq
    replace HRm := Lib.hid (HRm.out.below b)
    replace HRm' := Lib.hid (HRm'.out.below b)
    replace HRz := Lib.hid (HRz.out.below b)
    replace HRl := Lib.hid (HRl.out.below b)
    replace HRa := Lib.hid (HRa.out.below b)
    replace BXm := Lib.hid (BXm.out.below b); replace cm_0 := BXm.out.cell0; replace cm_1 := BXm.out.cell1
    replace HB := Lib.hid (HB.out.trans (b.mono hs)); replace hs := HB.out.size
    clear b
    have qa1 : w7.cell? ⟨ga, 1, none⟩ = some (.int .i64 (E : Int)) := HRa.out.getg (j := 1) (by omega)
    go_wp2_with fail
    refine (hasC_any Az nz cz (ed : Int) xs w7 HRz.out (by omega)).mono ?_
    rintro e w' ⟨rfl, rfl⟩
    cases hb : s.testBit ed with
    | true =>
      have hh : hasC xs (ed : Int) = true := by rw [HHA.out ed hedE, hb]
      rw [hh]
      go_wp2_with fail
      go_ret
      exact ⟨rfl, HB.out⟩
    | false =>
      have hh : hasC xs (ed : Int) = false := by rw [HHA.out ed hedE, hb]
      rw [hh]
      obtain ⟨b2, b3, b4, P', S', m1, m2, m3⟩ := HMO.out ed hedE hb
      have M1 := Lib.hid m1; have M2 := Lib.hid m2; have M3 := Lib.hid m3
      clear m1 m2 m3
      obtain ⟨s', hs'⟩ : ∃ s', s ||| 2 ^ ed = s' := ⟨_, rfl⟩
      rw [hs'] at M1 M3
      clear hs'
      obtain ⟨i0, hinf, hz0', hz1', hz2'⟩ := info_parts info_int
      go_wp2_with fail
      go_loopw [14, 15] (fun v' iv wr => ∃ (v : Value) (i Z : Nat) (ys : List Int), v = v' ∧ i ≤ E ∧ iv = .int .i64 i ∧ Hid (Own wr w7.heap.size v ys) ∧ Hid (ys = pickL s' i) ∧ Hid (ys.length = Z) ∧ Z ≤ i ∧ Hid (Below w7.heap.size w7 wr)) (fun _ iv _ => E - (intOf iv).toNat)
      case atStart => exact ⟨_, 0, 0, [], rfl, by omega, rfl, Own.empty (Nat.le_refl _), (pickL_zero s').symm, rfl, by omega, (Below.refl _ _).alloc (Nat.le_refl _) _⟩
      case round =>
        obtain ⟨v, i, Z, ys, rfl, hi, rfl, ho, hys, hyl, hZ, hb2⟩ := hrel
        replace HRm := Lib.hid (HRm.out.below hb2.out)
        replace HRm' := Lib.hid (HRm'.out.below hb2.out)
        replace HRz := Lib.hid (HRz.out.below hb2.out)
        replace HRl := Lib.hid (HRl.out.below hb2.out)
        replace HRa := Lib.hid (HRa.out.below hb2.out)
        replace BXm := Lib.hid (BXm.out.below hb2.out); replace cm_0 := BXm.out.cell0; replace cm_1 := BXm.out.cell1
        replace HB := Lib.hid (HB.out.trans (hb2.out.mono hs)); replace hs := HB.out.size
        have HW := hb2; clear hb2
        have qa1 : wr.cell? ⟨ga, 1, none⟩ = some (.int .i64 (E : Int)) := HRa.out.getg (j := 1) (by omega)
        by_cases hlt : i < E
        · have hdl : decide ((i : Int) < (E : Int)) = true := by simp; omega
          have hbit := M3.out i hlt
          have hhi := HHA.out i hlt
          have HO1 : Hid (wr.ownsRow w7.heap.size 3 1 v Z (ints ys)) := by have h := ho.out; unfold Own at h; rwa [hyl.out] at h
          by_cases hie : i = ed
          · have hbe : ((i : Int) == (ed : Int)) = true := by simp; omega
            rw [hie] at hbit
            simp only [decide_true, Bool.true_or] at hbit
            rw [← hie] at hbit
            clear hie
            go_wp2_with (at_builtin; refine wpList_append_own _ rfl _ _ 23 rfl w7.heap.size 3 i0 (.int .i64 0) 1 8 Try.underlying23 hinf hz0' hz1' hz2' rfl (by decide) _ _ _ rfl (HO1.out.alloc _) ⟨wr.heap.size, 0, none⟩ 1 1 [.int .i64 (i : Int)] rfl rfl (cell_one_new _ _ _) (by intro u hu; simp at hu; subst hu; rfl) (by unfold maxLen; omega) (by omega) (by have := HW.out.size; simp; omega) ?_; intro v1 w6 hown1 hgrow1 _)
            have HO := Lib.hid hown1; have HGR := Lib.hid hgrow1; clear hown1 hgrow1
            go_wp2
            go_roundw
            case rel =>
              have hsz := HW.out.size
              have ha := app_int (lo := w7.heap.size) (wr := wr) (L := Z) (by omega) (by unfold Own; rw [hyl.out]; exact HO1.out) hyl.out HO.out HGR.out
              refine ⟨_, i + 1, Z + 1, ys ++ [(i : Int)], rfl, by omega, by go_num, ha.1, ?_, by simp [Hid, hyl.out], by omega, HW.out.trans ha.2⟩
              rw [Hid, pickL_yes hbit, ← hys.out]
            case measure => simp [intOf]; omega
          · have hbe : ((i : Int) == (ed : Int)) = false := by simp; omega
            rw [decide_eq_false hie, Bool.false_or] at hbit
            cases hbi : s.testBit i with
            | true =>
              rw [hbi] at hbit hhi
              go_wp2_with fail
              refine (hasC_any Az nz cz (i : Int) xs wr HRz.out (by omega)).mono ?_
              rintro e w' ⟨rfl, rfl⟩
              rw [hhi]
              go_wp2_with (at_builtin; refine wpList_append_own _ rfl _ _ 23 rfl w7.heap.size 3 i0 (.int .i64 0) 1 8 Try.underlying23 hinf hz0' hz1' hz2' rfl (by decide) _ _ _ rfl (HO1.out.alloc _) ⟨wr.heap.size, 0, none⟩ 1 1 [.int .i64 (i : Int)] rfl rfl (cell_one_new _ _ _) (by intro u hu; simp at hu; subst hu; rfl) (by unfold maxLen; omega) (by omega) (by have := HW.out.size; simp; omega) ?_; intro v1 w6 hown1 hgrow1 _)
              have HO := Lib.hid hown1; have HGR := Lib.hid hgrow1; clear hown1 hgrow1
              go_wp2
              go_roundw
              case rel =>
                have hsz := HW.out.size
                have ha := app_int (lo := w7.heap.size) (wr := wr) (L := Z) (by omega) (by unfold Own; rw [hyl.out]; exact HO1.out) hyl.out HO.out HGR.out
                refine ⟨_, i + 1, Z + 1, ys ++ [(i : Int)], rfl, by omega, by go_num, ha.1, ?_, by simp [Hid, hyl.out], by omega, HW.out.trans ha.2⟩
                rw [Hid, pickL_yes hbit, ← hys.out]
              case measure => simp [intOf]; omega
            | false =>
              rw [hbi] at hbit hhi
              go_wp2_with fail
              refine (hasC_any Az nz cz (i : Int) xs wr HRz.out (by omega)).mono ?_
              rintro e w' ⟨rfl, rfl⟩
              rw [hhi]
              go_wp2_with fail
              go_roundw
              case rel => exact ⟨_, i + 1, Z, ys, rfl, by omega, by go_num, ho, by rw [Hid, pickL_no hbit]; exact hys.out, hyl, by omega, HW⟩
              case measure => simp [intOf]; omega
        · have hdl : decide ((i : Int) < (E : Int)) = false := by simp; omega
          obtain rfl : i = E := by omega
          rw [← hys.out] at M1
          obtain ⟨Ae, ce, rfl, -, -⟩ := ho.out.form' hyl.out
          have HRe := Lib.hid (ho.out.rd hyl.out)
          go_wp2_with fail
          refine (impl_ccR wr Am Am' nm nm cm cm' t f HRm.out HRm'.out (by omega) (by omega) Ae ce Z ys HRe.out (by omega) (ok := true) (ys := [(P' : Int), (S' : Int), b2, b3, b4]) (M1.out)).mono ?_
          rintro e w8 ⟨v, rfl, o, b⟩
          have hl : ([(P' : Int), (S' : Int), b2, b3, b4] : List Int).length = 5 := rfl
          obtain ⟨Ax, cx, rfl, -, -⟩ := o.form' hl
          obtain ⟨gx, rfl, -, -, -⟩ := o.cellAt hl (k := 0) (by omega)
          have HRx := Lib.hid (o.rd hl); clear o hl
          replace HRm := Lib.hid (HRm.out.below b)
          replace HRm' := Lib.hid (HRm'.out.below b)
          replace HRz := Lib.hid (HRz.out.below b)
          replace HRl := Lib.hid (HRl.out.below b)
          replace HRa := Lib.hid (HRa.out.below b)
          replace HRe := Lib.hid (HRe.out.below b)
          replace BXm := Lib.hid (BXm.out.below b); replace cm_0 := BXm.out.cell0; replace cm_1 := BXm.out.cell1
          replace HB := Lib.hid (HB.out.trans (b.mono hs)); replace hs := HB.out.size
          replace HW := Lib.hid (HW.out.trans (b.mono HW.out.size))
          clear b
          have qx0 : w8.cell? ⟨gx, 0, none⟩ = some (.int .i64 (P' : Int)) := HRx.out.getg (j := 0) (by omega)
          have qx1 : w8.cell? ⟨gx, 1, none⟩ = some (.int .i64 (S' : Int)) := HRx.out.getg (j := 1) (by omega)
          have ql0 : w8.cell? ⟨gl, 0, none⟩ = some (.int .i64 (P : Int)) := HRl.out.getg (j := 0) (by omega)
          have ql1 : w8.cell? ⟨gl, 1, none⟩ = some (.int .i64 (S : Int)) := HRl.out.getg (j := 1) (by omega)
          have hwP : IntKind.i64.wrap ((P : Int) - 1) = (P : Int) - 1 := IntWalk.i64_in _ (by omega)
          obtain ⟨d, hd⟩ : ∃ d : Int, (S' : Int) - S = d := ⟨_, rfl⟩
          have hwd : IntKind.i64.wrap ((S' : Int) - S) = d := by rw [hd]; have := M2.out; exact IntWalk.i64_in _ (by omega)
          rcases M2.out with ⟨h1, h2⟩ | ⟨h1, h2⟩ | ⟨h1, h2⟩
          · obtain rfl : d = 1 := by omega
            have hp : ((P' : Int) == (P : Int)) = true := by simp; omega
            clear h1 h2 hd M2
            go_wp2_with fail
            go_quiet (fail)
            go_wp2_with fail
            go_quiet (fail)
            go_wp2_with fail
            go_ret
            exact ⟨rfl, by first | exact HB.out | exact below_drewN HB.out _ | exact below_drewN (below_drewN HB.out _) _⟩
          · obtain rfl : d = (-1) := by omega
            have hp : ((P' : Int) == (P : Int)) = true := by simp; omega
            clear h1 h2 hd M2
            go_wp2_with fail
            go_quiet (fail)
            go_wp2_with fail
            go_quiet (fail)
            go_wp2_with fail
            go_ret
            exact ⟨rfl, by first | exact HB.out | exact below_drewN HB.out _ | exact below_drewN (below_drewN HB.out _) _⟩
          · obtain rfl : d = (-1) := by omega
            have hp : ((P' : Int) == (P : Int)) = false := by simp; omega
            have hp2 : ((P' : Int) == (P : Int) - 1) = true := by simp; omega
            clear h1 h2 hd M2
            go_wp2_with fail
            go_quiet (fail)
            go_wp2_with fail
            go_quiet (fail)
            go_wp2_with fail
            go_ret
            exact ⟨rfl, by first | exact HB.out | exact below_drewN HB.out _ | exact below_drewN (below_drewN HB.out _) _⟩
  | false =>
    have C1 : Hid (ccR t f xs = (false, [])) := by rw [Hid, ccR, hv]; rfl
    clear hv
    go_wp2_with fail
    refine (impl_ccR w2 Am Am' nm nm' cm cm' t f HRm.out HRm'.out (by omega) (by omega) Az cz nz xs HRz.out (by omega) (ok := false) (ys := []) (C1.out)).mono ?_
    rintro e w3 ⟨v, rfl, o, b⟩
    have hl : ([] : List Int).length = 0 := rfl
    obtain ⟨Al, cl, rfl, -, -⟩ := o.form' hl
    have HRl := Lib.hid (o.rd hl); clear o hl
    replace HRm := Lib.hid (HRm.out.below b)
    replace HRm' := Lib.hid (HRm'.out.below b)
    replace HRz := Lib.hid (HRz.out.below b)
    replace BXm := Lib.hid (BXm.out.below b); replace cm_0 := BXm.out.cell0; replace cm_1 := BXm.out.cell1
    replace HB := Lib.hid (HB.out.trans (b.mono hs)); replace hs := HB.out.size
    clear b
    go_wp2_with fail
    refine (spec_ccR w3 Am Am' nm nm' cm cm' t f HRm.out HRm'.out (by omega) (by omega) Az cz nz xs HRz.out (by omega) (ok := false) (ys := []) (C1.out)).mono ?_
    rintro e w4 ⟨v, rfl, o, b⟩
    have hl : ([] : List Int).length = 0 := rfl
    obtain ⟨Aq, cq, rfl, -, -⟩ := o.form' hl
    have HRq := Lib.hid (o.rd hl); clear o hl
    replace HRm := Lib.hid (HRm.out.below b)
    replace HRm' := Lib.hid (HRm'.out.below b)
    replace HRz := Lib.hid (HRz.out.below b)
    replace HRl := Lib.hid (HRl.out.below b)
    replace BXm := Lib.hid (BXm.out.below b); replace cm_0 := BXm.out.cell0; replace cm_1 := BXm.out.cell1
    replace HB := Lib.hid (HB.out.trans (b.mono hs)); replace hs := HB.out.size
    clear b
    go_wp2_with fail
    refine (same_yes w4 Al Aq 0 0 cl cq [] [] HRl.out HRq.out (by omega) (by omega) (rfl)).mono ?_
    rintro e w5 ⟨rfl, b⟩
    replace HRm := Lib.hid (HRm.out.below b)
    replace HRm' := Lib.hid (HRm'.out.below b)
    replace HRz := Lib.hid (HRz.out.below b)
    replace HRl := Lib.hid (HRl.out.below b)
    replace HRq := Lib.hid (HRq.out.below b)
    replace BXm := Lib.hid (BXm.out.below b); replace cm_0 := BXm.out.cell0; replace cm_1 := BXm.out.cell1
    replace HB := Lib.hid (HB.out.trans (b.mono hs)); replace hs := HB.out.size
    clear b
    go_wp2_with fail
    refine (same_yes w5 Al Aq 0 0 cl cq [] [] HRl.out HRq.out (by omega) (by omega) (rfl)).mono ?_
    rintro e w6 ⟨rfl, b⟩
    replace HRm := Lib.hid (HRm.out.below b)
    replace HRm' := Lib.hid (HRm'.out.below b)
    replace HRz := Lib.hid (HRz.out.below b)
    replace HRl := Lib.hid (HRl.out.below b)
    replace HRq := Lib.hid (HRq.out.below b)
    replace BXm := Lib.hid (BXm.out.below b); replace cm_0 := BXm.out.cell0; replace cm_1 := BXm.out.cell1
    replace HB := Lib.hid (HB.out.trans (b.mono hs)); replace hs := HB.out.size
    clear b
    go_wp2_with fail
    go_ret
    exact ⟨rfl, HB.out⟩

end Go.Proofs.Ytcenffndclpjoaa
