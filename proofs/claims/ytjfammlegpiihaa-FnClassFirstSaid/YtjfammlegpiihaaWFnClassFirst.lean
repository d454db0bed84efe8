/-
  FnClassFirst: the walk of the law.
-/
import Derived.Test.YtjfammlegpiihaaLawMap
import Derived.Test.YtjfammlegpiihaaDrawPt
import Derived.Test.YtjfammlegpiihaaPtL
import Derived.Test.YtjfammlegpiihaaPtF
import Derived.Test.YtjfammlegpiihaaType
import Derived.Test.YtjfammlegpiihaaSign
namespace Go.Proofs.Ytjfammlegpiihaa
open Go.RowKit

def onesF (n : Nat) : List Int := List.replicate n 1
def firB (p : List Int) : Bool := decide (Pt (onesF (sumI p).toNat)) && decide (sumI (onesF (sumI p).toNat) = sumI p) && decide (chr (onesF (sumI p).toNat) p = signR (cf p)) && decide (p.sum = sumI p) && decide (typeR (cf p) = (true, p)) &&
  decide (signR (cf p) = 1 ∨ signR (cf p) = -1) && decide ((p.length : Int) ≤ sumI p) && decide ((signR (cf p) == 1) = ((sumI p - p.length) % 2 == 0)) && decide ((cf p).length = (sumI p).toNat)
theorem firB_all : ∀ p ∈ allPts, firB p = true := by decide +kernel
theorem fir_law {p : List Int} (h : p ∈ allPts) : Pt (onesF (sumI p).toNat) ∧ sumI (onesF (sumI p).toNat) = sumI p ∧ chr (onesF (sumI p).toNat) p = signR (cf p) ∧ p.sum = sumI p ∧ typeR (cf p) = (true, p) ∧ (signR (cf p) = 1 ∨ signR (cf p) = -1) ∧ (p.length : Int) ≤ sumI p ∧ ((signR (cf p) == 1) = ((sumI p - p.length) % 2 == 0)) ∧ (cf p).length = (sumI p).toNat := by
  have := firB_all p h
  simp only [firB, Bool.and_eq_true, decide_eq_true_eq] at this
  obtain ⟨⟨⟨⟨⟨⟨⟨⟨a, b⟩, c⟩, d⟩, e⟩, f⟩, g⟩, h⟩, i⟩ := this
  exact ⟨a, b, c, d, e, f, g, h, i⟩

set_option maxRecDepth 100000 in
set_option maxHeartbeats 3200000 in
theorem walk_FnClassFirst (A0 : Option Addr) (n0 c0 : Nat) (bs0 : List Int) (w : World) (h0 : RdB w A0 n0 bs0) (hm0 : n0 ≤ maxLen ∧ n0 ≤ c0) :
    Calls Try.prog 3 #[.slice A0 n0 c0] w fun e w' => e = .returned (.bool true) ∧ Below w.heap.size w w' := by
  have HB0_0 := Lib.hid h0; have hc0 := hm0.2; have hml0 := hm0.1; clear h0 hm0; unfold maxLen at hml0
  by_cases hbig0 : 1048576 < n0
  · have hd : decide ((1048576 : Int) < n0) = true := by simp; omega
    go_enter Try.func3, Try.ntmps3
    go_wp2
    go_ret
    exact ⟨rfl, Below.refl _ _⟩
  have hd0 : decide ((1048576 : Int) < n0) = false := by simp; omega
  have hnb0 : n0 ≤ 1048576 := by omega
  clear hbig0
  go_enter Try.func3, Try.ntmps3
  go_wp2_with fail
  refine (drawClassFirst_any w A0 n0 c0 bs0 HB0_0.out hnb0 hc0).mono ?_
  rintro e w1 ⟨v, p, rfl, o, hlp, b⟩
  obtain ⟨np, hn⟩ : ∃ n, p.length = n := ⟨_, rfl⟩
  rw [hn] at hlp
  obtain ⟨Ap, cp, rfl, -, -⟩ := o.form' hn
  have HRp := Lib.hid (o.rd hn); have HNp := Lib.hid hn; have HCAPp : Hid (np ≤ cp) := o.capP; have HROWp : Hid (0 < np → ∃ g o', Ap = some ⟨g, o', none⟩ ∧ g < w1.heap.size) := (fun hp => by obtain ⟨g, e, hg⟩ := o.row hn hp; exact ⟨g, 0, e, hg⟩); clear o hn
  have HB := Lib.hid b; have hs := b.size; clear b
  have HBB : Hid (Below w1.heap.size w1 w1) := Below.refl _ _
  by_cases hv : pt p = true
  · have HV := Lib.hid (Pt_of hv)
    obtain ⟨f1, f2, f3, f4, f5, f6, f7, f8, f9⟩ := fir_law HV.out.all
    have h1p : 1 ≤ np := by have := HV.out.1; rw [HNp.out] at this; exact this
    have h6p : np ≤ 6 := by have := HV.out.len; rw [HNp.out] at this; exact this
    have hsm := HV.out.sum
    obtain ⟨s, hs0⟩ := Int.eq_ofNat_of_zero_le (show 0 ≤ sumI p by omega)
    rw [hs0] at f1 f2 f3 f4 f7 f8 f9 hsm
    have et : ((s : Int)).toNat = s := by omega
    rw [et] at f1 f2 f3 f9
    rw [HNp.out] at f7 f8
    obtain ⟨sg, hsg⟩ : ∃ sg, signR (cf p) = sg := ⟨_, rfl⟩
    rw [hsg] at f3 f6 f8
    obtain ⟨u, hu⟩ : ∃ u : Nat, (s : Int) - (np : Int) = (u : Int) := ⟨s - np, by omega⟩
    rw [hu] at f8
    obtain ⟨bb, hbb⟩ : ∃ bb, (sg == 1) = bb := ⟨_, rfl⟩
    rw [hbb] at f8
    have g1 : IntKind.i64.wrap ((s : Int) - (np : Int)) = (u : Int) := by rw [hu]; exact IntWalk.i64_in _ (by omega)
    have g2 : ((u : Int) % 2 == 0) = bb := f8.symm
    have g3 : (bb == bb) = true := by simp
    have g4 : (sg == sg) = true := by simp
    have hs6 : s ≤ 6 := by omega
    have hs12 : s ≤ 12 := by omega
    have HF1 := Lib.hid f1; have HF2 := Lib.hid f2; have HF3 := Lib.hid f3; have HF4 := Lib.hid f4; have HF5 := Lib.hid f5; have HF9 := Lib.hid f9; have HS := Lib.hid hs0; have HSG := Lib.hid hsg; have HU := Lib.hid hu
    clear f1 f2 f3 f4 f5 f6 f7 f8 f9 hs0 et hsg hu hsm
    go_wp2_with fail
    refine (impl_cfR w1 Ap cp np p HRp.out (by omega) (ok := true) (ys := cf p) (by rw [cfR, if_pos hv])).mono ?_
    rintro e w2 ⟨v, rfl, o, b⟩
    have hl : (cf p : List Int).length = s := HF9.out
    obtain ⟨Aq, cq, rfl, -, -⟩ := o.form' hl
    have HRq := Lib.hid (o.rd hl); clear o hl
    replace HRp := Lib.hid (HRp.out.below b)
    replace HB := Lib.hid (HB.out.trans (b.mono hs)); replace hs := HB.out.size
    replace HBB := Lib.hid (HBB.out.trans (b.mono HBB.out.size))
    clear b
    go_wp2_with fail
    refine (spec_cfR w2 Ap cp np p HRp.out (by omega) (ok := true) (ys := cf p) (by rw [cfR, if_pos hv])).mono ?_
    rintro e w3 ⟨v, rfl, o, b⟩
    have hl : (cf p : List Int).length = s := HF9.out
    obtain ⟨Ar, cr, rfl, -, -⟩ := o.form' hl
    have HRr := Lib.hid (o.rd hl); clear o hl
    replace HRp := Lib.hid (HRp.out.below b)
    replace HRq := Lib.hid (HRq.out.below b)
    replace HB := Lib.hid (HB.out.trans (b.mono hs)); replace hs := HB.out.size
    replace HBB := Lib.hid (HBB.out.trans (b.mono HBB.out.size))
    clear b
    go_wp2_with fail
    refine (same_yes w3 Aq Ar s s cq cr (cf p) (cf p) HRq.out HRr.out (by omega) (by omega) (rfl)).mono ?_
    rintro e w4 ⟨rfl, b⟩
    replace HRp := Lib.hid (HRp.out.below b)
    replace HRq := Lib.hid (HRq.out.below b)
    replace HRr := Lib.hid (HRr.out.below b)
    replace HB := Lib.hid (HB.out.trans (b.mono hs)); replace hs := HB.out.size
    replace HBB := Lib.hid (HBB.out.trans (b.mono HBB.out.size))
    clear b
    clear HRr
    go_wp2_with fail
    refine (sumB_any w4 Ap np cp p HRp.out (by omega) (fun j hj => by have := HV.out.le (j := j) (by rw [HNp.out]; exact hj); omega) HF4.out).mono ?_
    rintro e w5 ⟨rfl, b⟩
    replace HRp := Lib.hid (HRp.out.below b)
    replace HRq := Lib.hid (HRq.out.below b)
    replace HB := Lib.hid (HB.out.trans (b.mono hs)); replace hs := HB.out.size
    replace HBB := Lib.hid (HBB.out.trans (b.mono HBB.out.size))
    clear b
    obtain ⟨i0, hinf, hz0, hz1, hz2⟩ := info_parts info_int
    go_wp2_with fail
    go_loopw [9, 10] (fun v i wr => ∃ k : Nat, k ≤ s ∧ i = .int .i64 k ∧ Hid (wr.ownsRow w5.heap.size 3 1 v k (ints (onesF k))) ∧ Hid (Below w5.heap.size w5 wr)) (fun _ i _ => s - (intOf i).toNat)
    case atStart => exact ⟨0, Nat.zero_le _, rfl, Own.empty (Nat.le_refl _), (Below.refl _ _).alloc (Nat.le_refl _) _⟩
    case round =>
      obtain ⟨k, hk, rfl, ho, hb⟩ := hrel
      have hbs := hb.out.size
      by_cases hlt : k < s
      · go_wp2_with (at_builtin; refine wpList_append_own _ rfl _ _ 23 rfl w5.heap.size 3 i0 (.int .i64 0) 1 8 Try.underlying23 hinf hz0 hz1 hz2 rfl (by decide) _ _ _ rfl (ho.out.alloc _) ⟨wr.heap.size, 0, none⟩ 1 1 [.int .i64 1] rfl rfl (cell_one_new _ _ _) (by intro u hu; simp at hu; subst hu; rfl) (by unfold maxLen; omega) (by omega) (by simp; omega) ?_; intro v1 wq hown1 hgrow1 _)
        have HO := Lib.hid hown1; have HGR := Lib.hid hgrow1; clear hown1 hgrow1
        go_wp2_with fail
        go_roundw
        case rel =>
          refine ⟨k + 1, by omega, by go_num, ?_, ?_⟩
          · have := HO.out
            rw [Hid, onesF, List.replicate_succ', ints, List.map_append]
            exact this
          · exact (hb.out.alloc hbs _).grown HGR.out (by simp; omega) (fun j hj => (ho.out.lt j hj).1)
        case measure => simp [intOf]; omega
      · obtain rfl : k = s := by omega
        have hown : Own wr w5.heap.size u9 (onesF k) := by unfold Own; rw [show (onesF k).length = k from by simp [onesF]]; exact ho.out
        obtain ⟨Ao, co, rfl, -, -⟩ := hown.form' (n := k) (by simp [onesF])
        have HONE : Hid (Rd wr Ao k (onesF k)) := hown.rd (by simp [onesF])
        clear hown ho
        replace HRp := Lib.hid (HRp.out.below hb.out)
        replace HRq := Lib.hid (HRq.out.below hb.out)
        replace HB := Lib.hid (HB.out.trans (hb.out.mono hs)); replace hs := HB.out.size
        have HW := hb; clear hb
        have HSZ : Hid (w1.heap.size ≤ wr.heap.size) := by have h1 := HBB.out.size; have h2 := HW.out.size; exact Nat.le_trans h1 h2
        go_wp2_with fail
        refine (impl_chR wr Ao co k (onesF k) HONE.out (by omega) Ap cp np p HRp.out (by omega) HCAPp.out (fun hp => by obtain ⟨g, o', e, hg⟩ := HROWp.out hp; exact ⟨g, o', e, Nat.lt_of_lt_of_le hg HSZ.out⟩) (ok := true) (r := sg) (by rw [chR, if_pos (prB_iff.2 ⟨HF1.out, HV.out, by rw [HS.out, HF2.out]⟩), HF3.out])).mono ?_
        rintro e w6 ⟨rfl, b⟩
        replace HRp := Lib.hid (HRp.out.below b)
        replace HRq := Lib.hid (HRq.out.below b)
        replace HB := Lib.hid (HB.out.trans (b.mono hs)); replace hs := HB.out.size
        replace HW := Lib.hid (HW.out.trans (b.mono HW.out.size))
        clear b
        clear HONE HSZ
        go_wp2_with fail
        refine (impl_typeR w6 Aq cq k (cf p) HRq.out (by omega) (ok := true) (ys := p) (HF5.out)).mono ?_
        rintro e w7 ⟨v, rfl, o, b⟩
        have hl : (p : List Int).length = np := HNp.out
        obtain ⟨Ay, cy, rfl, -, -⟩ := o.form' hl
        have HRy := Lib.hid (o.rd hl); clear o hl
        replace HRp := Lib.hid (HRp.out.below b)
        replace HRq := Lib.hid (HRq.out.below b)
        replace HB := Lib.hid (HB.out.trans (b.mono hs)); replace hs := HB.out.size
        replace HW := Lib.hid (HW.out.trans (b.mono HW.out.size))
        clear b
        go_wp2_with fail
        refine (impl_signR w7 Aq cq k (cf p) HRq.out (by omega) HSG.out).mono ?_
        rintro e w8 ⟨rfl, b⟩
        replace HRp := Lib.hid (HRp.out.below b)
        replace HRq := Lib.hid (HRq.out.below b)
        replace HRy := Lib.hid (HRy.out.below b)
        replace HB := Lib.hid (HB.out.trans (b.mono hs)); replace hs := HB.out.size
        replace HW := Lib.hid (HW.out.trans (b.mono HW.out.size))
        clear b
        go_wp2_with fail
        refine (same_yes w8 Ay Ap np np cy cp p p HRy.out HRp.out (by omega) (by omega) (rfl)).mono ?_
        rintro e w9 ⟨rfl, b⟩
        replace HRp := Lib.hid (HRp.out.below b)
        replace HRq := Lib.hid (HRq.out.below b)
        replace HRy := Lib.hid (HRy.out.below b)
        replace HB := Lib.hid (HB.out.trans (b.mono hs)); replace hs := HB.out.size
        replace HW := Lib.hid (HW.out.trans (b.mono HW.out.size))
        clear b
        go_wp2_with fail
        go_ret
        exact ⟨rfl, HB.out⟩
  · have HV := Lib.hid hv
    go_wp2_with fail
    refine (impl_cfR w1 Ap cp np p HRp.out (by omega) (ok := false) (ys := []) (by rw [cfR, if_neg HV.out])).mono ?_
    rintro e w2 ⟨v, rfl, o, b⟩
    have hl : ([] : List Int).length = 0 := rfl
    obtain ⟨Aq, cq, rfl, -, -⟩ := o.form' hl
    have HRq := Lib.hid (o.rd hl); clear o hl
    replace HRp := Lib.hid (HRp.out.below b)
    replace HB := Lib.hid (HB.out.trans (b.mono hs)); replace hs := HB.out.size
    replace HBB := Lib.hid (HBB.out.trans (b.mono HBB.out.size))
    clear b
    go_wp2_with fail
    refine (spec_cfR w2 Ap cp np p HRp.out (by omega) (ok := false) (ys := []) (by rw [cfR, if_neg HV.out])).mono ?_
    rintro e w3 ⟨v, rfl, o, b⟩
    have hl : ([] : List Int).length = 0 := rfl
    obtain ⟨Ar, cr, rfl, -, -⟩ := o.form' hl
    have HRr := Lib.hid (o.rd hl); clear o hl
    replace HRp := Lib.hid (HRp.out.below b)
    replace HRq := Lib.hid (HRq.out.below b)
    replace HB := Lib.hid (HB.out.trans (b.mono hs)); replace hs := HB.out.size
    replace HBB := Lib.hid (HBB.out.trans (b.mono HBB.out.size))
    clear b
    go_wp2_with fail
    refine (same_yes w3 Aq Ar 0 0 cq cr [] [] HRq.out HRr.out (by omega) (by omega) (rfl)).mono ?_
    rintro e w4 ⟨rfl, b⟩
    replace HRp := Lib.hid (HRp.out.below b)
    replace HRq := Lib.hid (HRq.out.below b)
    replace HRr := Lib.hid (HRr.out.below b)
    replace HB := Lib.hid (HB.out.trans (b.mono hs)); replace hs := HB.out.size
    replace HBB := Lib.hid (HBB.out.trans (b.mono HBB.out.size))
    clear b
    go_wp2_with fail
    refine (same_yes w4 Aq Ar 0 0 cq cr [] [] HRq.out HRr.out (by omega) (by omega) (rfl)).mono ?_
    rintro e w5 ⟨rfl, b⟩
    replace HRp := Lib.hid (HRp.out.below b)
    replace HRq := Lib.hid (HRq.out.below b)
    replace HRr := Lib.hid (HRr.out.below b)
    replace HB := Lib.hid (HB.out.trans (b.mono hs)); replace hs := HB.out.size
    replace HBB := Lib.hid (HBB.out.trans (b.mono HBB.out.size))
    clear b
    go_wp2_with fail
    go_ret
    exact ⟨rfl, HB.out⟩

end Go.Proofs.Ytjfammlegpiihaa
