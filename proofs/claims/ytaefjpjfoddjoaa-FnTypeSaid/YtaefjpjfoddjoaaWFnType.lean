/-
  FnType: the walk of the law.
-/
import Derived.Test.YtaefjpjfoddjoaaLawMap
import Derived.Test.YtaefjpjfoddjoaaDrawP
import Derived.Test.YtaefjpjfoddjoaaPar3
import Derived.Test.YtaefjpjfoddjoaaType
import Derived.Test.YtaefjpjfoddjoaaConj
import Derived.Test.YtaefjpjfoddjoaaKitSS
import Derived.Test.YtaefjpjfoddjoaaCounts
namespace Go.Proofs.Ytaefjpjfoddjoaa
open Go.RowKit

theorem type_small {p : List Int} (hp : Vld p) {j : Nat} (hj : j < (typeL p).length) : 0 ≤ gi (typeL p) j ∧ gi (typeL p) j ≤ 1000 := by
  have hm : gi (typeL p) j ∈ typeL p := by rw [gi_eq hj]; exact List.getElem_mem hj
  have h1 := fromLen_le (cyclesL p) p.length _ hm
  have h2 := hp.2.1
  have h3 : ∀ (cs : List (List Int)) n x, x ∈ fromLen cs n → 0 ≤ x := fun cs n => by
    induction n with
    | zero => intro x h; simp [fromLen] at h
    | succ n ih =>
      intro x h
      rw [fromLen, List.mem_append] at h
      rcases h with h | h
      · have := (List.mem_replicate.1 h).2; omega
      · exact ih x h
  exact ⟨h3 _ _ _ hm, by omega⟩

theorem falls_at {p : List Int} {i : Nat} (hi : 1 ≤ i) (hl : i < (typeL p).length) : gi (typeL p) i ≤ gi (typeL p) (i - 1) := by
  have h := fromLen_falls (cyclesL p) p.length
  unfold Falls at h
  rw [List.pairwise_iff_getElem] at h
  have := h (i - 1) i (by show i - 1 < (typeL p).length; omega) hl (by omega)
  rw [gi_eq hl, gi_eq (by omega)]
  exact this

set_option maxRecDepth 100000 in
set_option maxHeartbeats 3200000 in
theorem walk_FnType (A0 : Option Addr) (n0 c0 : Nat) (bs0 : List Int) (A1 : Option Addr) (n1 c1 : Nat) (bs1 : List Int) (w : World) (h0 : RdB w A0 n0 bs0) (hm0 : n0 ≤ maxLen ∧ n0 ≤ c0) (h1 : RdB w A1 n1 bs1) (hm1 : n1 ≤ maxLen ∧ n1 ≤ c1) :
    Calls Try.prog 3 #[.slice A0 n0 c0, .slice A1 n1 c1] w fun e w' => e = .returned (.bool true) ∧ Below w.heap.size w w' := by
  have HB0_0 := Lib.hid h0; have hc0 := hm0.2; have hml0 := hm0.1; clear h0 hm0; unfold maxLen at hml0
  have HB0_1 := Lib.hid h1; have hc1 := hm1.2; have hml1 := hm1.1; clear h1 hm1; unfold maxLen at hml1
  by_cases hbig0 : 1048576 < n0
  · have hd : decide ((1048576 : Int) < n0) = true := by simp; omega
    go_enter Try.func3, Try.ntmps3
    go_wp2
    go_ret
    exact ⟨rfl, Below.refl _ _⟩
  have hd0 : decide ((1048576 : Int) < n0) = false := by simp; omega
  have hnb0 : n0 ≤ 1048576 := by omega
  clear hbig0
  by_cases hbig1 : 1048576 < n1
  · have hd : decide ((1048576 : Int) < n1) = true := by simp; omega
    go_enter Try.func3, Try.ntmps3
    go_wp2
    go_ret
    exact ⟨rfl, Below.refl _ _⟩
  have hd1 : decide ((1048576 : Int) < n1) = false := by simp; omega
  have hnb1 : n1 ≤ 1048576 := by omega
  clear hbig1
  go_enter Try.func3, Try.ntmps3
  go_wp2_with fail
  refine (drawType_any w A0 n0 c0 bs0 HB0_0.out hnb0 hc0).mono ?_
  rintro e w1 ⟨v, p, rfl, o, hlp, b⟩
  obtain ⟨np, hn⟩ : ∃ n, p.length = n := ⟨_, rfl⟩
  rw [hn] at hlp
  obtain ⟨Ap, cp, rfl, -, -⟩ := o.form' hn
  have HRp := Lib.hid (o.rd hn); have HNp := Lib.hid hn; clear o hn
  have HB := Lib.hid b; have hs := b.size; clear b
  by_cases hv : vld p = true
  · have HV := Lib.hid (Vld_of hv)
    have hn12 : np ≤ 12 := by have := HV.out.2.1; rw [HNp.out] at this; exact this
    have hn1 : 1 ≤ np := by have := HV.out.1; rw [HNp.out] at this; exact this
    obtain ⟨M, hM⟩ : ∃ M, (typeL p).length = M := ⟨_, rfl⟩
    have hM12 : M ≤ 12 := by have h1 := typeL_len HV.out; have h2 := cyclesL_len (p := p); rw [HNp.out] at h2; omega
    have HM := Lib.hid hM
    have HMC : Hid ((cyclesL p).length = M) := (typeL_len HV.out).symm.trans hM
    clear hM
    have ht5 : ((n1 : Nat) : Int).tmod 5 = ((n1 % 5 : Nat) : Int) := rfl
    obtain ⟨j, hj⟩ : ∃ j, n1 % 5 = j := ⟨_, rfl⟩
    have hj5 : j < 5 := by omega
    rw [hj] at ht5
    clear hj
    go_wp2_with fail
    refine (impl_typeR w1 Ap cp np p HRp.out (by omega) (ok := true) (ys := typeL p) (by rw [typeR, if_pos (vld_true HV.out)])).mono ?_
    rintro e w2 ⟨v, rfl, o, b⟩
    have hl : (typeL p : List Int).length = M := HM.out
    obtain ⟨Aq, cq, rfl, -, -⟩ := o.form' hl
    have HRq := Lib.hid (o.rd hl); clear o hl
    replace HRp := Lib.hid (HRp.out.below b)
    replace HB := Lib.hid (HB.out.trans (b.mono hs)); replace hs := HB.out.size
    clear b
    go_wp2_with fail
    refine (spec_typeR w2 Ap cp np p HRp.out (by omega) (ok := true) (ys := typeL p) (by rw [typeR, if_pos (vld_true HV.out)])).mono ?_
    rintro e w3 ⟨v, rfl, o, b⟩
    have hl : (typeL p : List Int).length = M := HM.out
    obtain ⟨Ar, cr, rfl, -, -⟩ := o.form' hl
    have HRr := Lib.hid (o.rd hl); clear o hl
    replace HRp := Lib.hid (HRp.out.below b)
    replace HRq := Lib.hid (HRq.out.below b)
    replace HB := Lib.hid (HB.out.trans (b.mono hs)); replace hs := HB.out.size
    clear b
    go_wp2_with fail
    refine (same_yes w3 Aq Ar M M cq cr (typeL p) (typeL p) HRq.out HRr.out (by omega) (by omega) (rfl)).mono ?_
    rintro e w4 ⟨rfl, b⟩
    replace HRp := Lib.hid (HRp.out.below b)
    replace HRq := Lib.hid (HRq.out.below b)
    replace HRr := Lib.hid (HRr.out.below b)
    replace HB := Lib.hid (HB.out.trans (b.mono hs)); replace hs := HB.out.size
    clear b
    clear HRr
    go_wp2_with fail
    rw [show (1 : Int) + (j : Int) = ((j + 1 : Nat) : Int) from by omega]
    refine (mixC_any w4 (np) (j + 1) (hn1) (by omega) (by omega)).mono ?_
    rintro e w5 ⟨v, rfl, o, b⟩
    have hl : (mixL np (j + 1) : List Int).length = np := mixL_len _ _
    obtain ⟨Ag, cg, rfl, -, -⟩ := o.form' hl
    have HRg := Lib.hid (o.rd hl); clear o hl
    replace HRp := Lib.hid (HRp.out.below b)
    replace HRq := Lib.hid (HRq.out.below b)
    replace HB := Lib.hid (HB.out.trans (b.mono hs)); replace hs := HB.out.size
    clear b
    have HG : Hid (Vld (mixL np (j + 1))) := mixL_vld hn1 hn12
    have HGL : Hid ((mixL np (j + 1)).length = np) := mixL_len _ _
    obtain ⟨g, hg⟩ : ∃ g, mixL np (j + 1) = g := ⟨_, rfl⟩
    rw [hg] at HG HGL HRg
    clear hg
    have HC : Hid (Vld (conjL p g)) := conj_vld HV.out HG.out (HNp.out.trans HGL.out.symm)
    go_wp2_with fail
    refine (impl_conjR w5 Ap cp np p HRp.out (by omega) Ag cg np g HRg.out (by omega) (ok := true) (ys := conjL p g) (by rw [conjR, if_pos (both_iff.2 ⟨HV.out, HG.out, HNp.out.trans HGL.out.symm⟩)])).mono ?_
    rintro e w6 ⟨v, rfl, o, b⟩
    have hl : (conjL p g : List Int).length = np := (conjL_len _ _).trans HGL.out
    obtain ⟨Ax, cx, rfl, -, -⟩ := o.form' hl
    have HRx := Lib.hid (o.rd hl); clear o hl
    replace HRp := Lib.hid (HRp.out.below b)
    replace HRq := Lib.hid (HRq.out.below b)
    replace HRg := Lib.hid (HRg.out.below b)
    replace HB := Lib.hid (HB.out.trans (b.mono hs)); replace hs := HB.out.size
    clear b
    go_wp2_with fail
    refine (impl_typeR w6 Ax cx np (conjL p g) HRx.out (by omega) (ok := true) (ys := typeL p) (by rw [typeR, if_pos (vld_true HC.out), ← conj_type HV.out HG.out (HNp.out.trans HGL.out.symm)])).mono ?_
    rintro e w7 ⟨v, rfl, o, b⟩
    have hl : (typeL p : List Int).length = M := HM.out
    obtain ⟨Ay, cy, rfl, -, -⟩ := o.form' hl
    have HRy := Lib.hid (o.rd hl); clear o hl
    replace HRp := Lib.hid (HRp.out.below b)
    replace HRq := Lib.hid (HRq.out.below b)
    replace HRg := Lib.hid (HRg.out.below b)
    replace HRx := Lib.hid (HRx.out.below b)
    replace HB := Lib.hid (HB.out.trans (b.mono hs)); replace hs := HB.out.size
    clear b
    go_wp2_with fail
    refine (impl_cycR w7 Ap cp np p HRp.out (by omega) (ok := true) (ys := cyclesL p) (by rw [cycR, if_pos (vld_true HV.out)])).mono ?_
    rintro e w8 ⟨v, rfl, o, b⟩
    obtain ⟨Az, cz, rfl⟩ := o.form_len HMC.out
    clear o
    replace HRp := Lib.hid (HRp.out.below b)
    replace HRq := Lib.hid (HRq.out.below b)
    replace HRg := Lib.hid (HRg.out.below b)
    replace HRx := Lib.hid (HRx.out.below b)
    replace HRy := Lib.hid (HRy.out.below b)
    replace HB := Lib.hid (HB.out.trans (b.mono hs)); replace hs := HB.out.size
    clear b
    go_wp2_with fail
    go_loopw [16] (fun iv wr => ∃ i d : Nat, iv = .int .i64 (i : Int) ∧ 1 ≤ i ∧ wr = w8.drewN d) (fun iv _ => M + 1 - (intOf iv).toNat)
    case atStart => exact ⟨1, 0, rfl, by omega, rfl⟩
    case round =>
      obtain ⟨i, d, rfl, hi, rfl⟩ := hrel
      by_cases hlt : i < M
      · have h1 := HRq.out.at_ hlt
        obtain ⟨aq, rfl, h1⟩ := h1
        obtain ⟨aq', e, h2⟩ := HRq.out.at_ (show i - 1 < M by omega)
        simp only [Option.some.injEq] at e
        subst e
        have hfl := falls_at (p := p) (i := i) hi (by rw [HM.out]; exact hlt)
        obtain ⟨v, hv⟩ : ∃ v, gi (typeL p) i = v := ⟨_, rfl⟩
        obtain ⟨u, hu⟩ : ∃ u, gi (typeL p) (i - 1) = u := ⟨_, rfl⟩
        rw [hv] at h1 hfl
        rw [hu] at h2 hfl
        obtain ⟨k, hk⟩ : ∃ k, i - 1 = k := ⟨_, rfl⟩
        rw [hk] at h2
        have e3 : (i : Int) - 1 = (k : Int) := by omega
        have hkM : k < M := by omega
        have hd : decide (u < v) = false := by simp; omega
        clear hv hu hfl hk
        go_wp2
        go_quiet (fail)
        go_wp2
        go_roundw
        case rel => exact ⟨i + 1, d + _, by go_num, by omega, rfl⟩
        case measure => simp [intOf]; omega
      · have hdn : decide ((i : Int) < (M : Int)) = false := by simp; omega
        have b := below_drewN (Below.refl w8.heap.size w8) d
        obtain ⟨v9, hw⟩ : ∃ w', w8.drewN d = w' := ⟨_, rfl⟩
        rw [hw] at b
        replace HRp := Lib.hid (HRp.out.below b)
        replace HRq := Lib.hid (HRq.out.below b)
        replace HRg := Lib.hid (HRg.out.below b)
        replace HRx := Lib.hid (HRx.out.below b)
        replace HRy := Lib.hid (HRy.out.below b)
        replace HB := Lib.hid (HB.out.trans (b.mono hs)); replace hs := HB.out.size
        clear b
        rw [hw]
        clear hw
        have hnn : ((np : Int) == (np : Int)) = true := by simp
        have hmm : ((M : Int) == (M : Int)) = true := by simp
        go_wp2_with fail
        refine (sumB_any v9 Aq M cq (typeL p) HRq.out (by omega) (fun j hj => type_small HV.out (by rw [HM.out]; exact hj)) (r := (np : Int)) (by rw [type_sum HV.out, HNp.out])).mono ?_
        rintro e w10 ⟨rfl, b⟩
        replace HRp := Lib.hid (HRp.out.below b)
        replace HRq := Lib.hid (HRq.out.below b)
        replace HRg := Lib.hid (HRg.out.below b)
        replace HRx := Lib.hid (HRx.out.below b)
        replace HRy := Lib.hid (HRy.out.below b)
        replace HB := Lib.hid (HB.out.trans (b.mono hs)); replace hs := HB.out.size
        clear b
        go_wp2_with fail
        refine (same_yes w10 Ay Aq M M cy cq (typeL p) (typeL p) HRy.out HRq.out (by omega) (by omega) (rfl)).mono ?_
        rintro e w11 ⟨rfl, b⟩
        replace HRp := Lib.hid (HRp.out.below b)
        replace HRq := Lib.hid (HRq.out.below b)
        replace HRg := Lib.hid (HRg.out.below b)
        replace HRx := Lib.hid (HRx.out.below b)
        replace HRy := Lib.hid (HRy.out.below b)
        replace HB := Lib.hid (HB.out.trans (b.mono hs)); replace hs := HB.out.size
        clear b
        go_wp2_with fail
        go_ret
        exact ⟨rfl, HB.out⟩
  · have HV := Lib.hid hv
    go_wp2_with fail
    refine (impl_typeR w1 Ap cp np p HRp.out (by omega) (ok := false) (ys := []) (by rw [typeR, if_neg HV.out])).mono ?_
    rintro e w2 ⟨v, rfl, o, b⟩
    have hl : ([] : List Int).length = 0 := rfl
    obtain ⟨Aq, cq, rfl, -, -⟩ := o.form' hl
    have HRq := Lib.hid (o.rd hl); clear o hl
    replace HRp := Lib.hid (HRp.out.below b)
    replace HB := Lib.hid (HB.out.trans (b.mono hs)); replace hs := HB.out.size
    clear b
    go_wp2_with fail
    refine (spec_typeR w2 Ap cp np p HRp.out (by omega) (ok := false) (ys := []) (by rw [typeR, if_neg HV.out])).mono ?_
    rintro e w3 ⟨v, rfl, o, b⟩
    have hl : ([] : List Int).length = 0 := rfl
    obtain ⟨Ar, cr, rfl, -, -⟩ := o.form' hl
    have HRr := Lib.hid (o.rd hl); clear o hl
    replace HRp := Lib.hid (HRp.out.below b)
    replace HRq := Lib.hid (HRq.out.below b)
    replace HB := Lib.hid (HB.out.trans (b.mono hs)); replace hs := HB.out.size
    clear b
    go_wp2_with fail
    refine (same_yes w3 Aq Ar 0 0 cq cr [] [] HRq.out HRr.out (by omega) (by omega) (rfl)).mono ?_
    rintro e w4 ⟨rfl, b⟩
    replace HRp := Lib.hid (HRp.out.below b)
    replace HRq := Lib.hid (HRq.out.below b)
    replace HRr := Lib.hid (HRr.out.below b)
    replace HB := Lib.hid (HB.out.trans (b.mono hs)); replace hs := HB.out.size
    clear b
    go_wp2_with fail
    refine (same_yes w4 Aq Ar 0 0 cq cr [] [] HRq.out HRr.out (by omega) (by omega) (rfl)).mono ?_
    rintro e w5 ⟨rfl, b⟩
    replace HRp := Lib.hid (HRp.out.below b)
    replace HRq := Lib.hid (HRq.out.below b)
    replace HRr := Lib.hid (HRr.out.below b)
    replace HB := Lib.hid (HB.out.trans (b.mono hs)); replace hs := HB.out.size
    clear b
    go_wp2_with fail
    go_ret
    exact ⟨rfl, HB.out⟩

end Go.Proofs.Ytaefjpjfoddjoaa
