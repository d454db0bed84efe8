/-
  FnDegree: the walk of the law.
-/
import Derived.Test.YtcfjbblmfbbocaaLawMap
import Derived.Test.YtcfjbblmfbbocaaDrawPt
import Derived.Test.YtcfjbblmfbbocaaPtG
import Derived.Test.YtcfjbblmfbbocaaPtL
namespace Go.Proofs.Ytcfjbblmfbbocaa
open Go.RowKit

/-- The shape with one place less in a row. -/
def lessL (p : List Int) (i : Nat) : List Int := if gi p i = 1 then (p.set i (gi p i - 1)).take i else p.set i (gi p i - 1)
def corner (p : List Int) (i : Nat) : Bool := decide (i + 1 = p.length) || decide (gi p (i + 1) < gi p i)
def dgs (p : List Int) : Nat → Int
  | 0 => 0
  | i + 1 => if corner p i then dgs p i + dg (lessL p i) else dgs p i
def onesL (n : Nat) : List Int := List.replicate n 1
def degB (p : List Int) : Bool := decide (Pt (onesL (sumI p).toNat)) && decide (sumI (onesL (sumI p).toNat) = sumI p) && decide (chr p (onesL (sumI p).toNat) = dg p) && decide (p.sum = sumI p) && decide (1 ≤ dg p) &&
  decide (sumI p = 1 → dg p = 1) && decide (1 < sumI p → dgs p p.length = dg p ∧ ∀ i, i < p.length → (0 ≤ dgs p i ∧ dgs p i ≤ 1000 ∧ 0 ≤ dgs p (i + 1) ∧ dgs p (i + 1) ≤ 1000 ∧ (corner p i = true → Pt (lessL p i))))
theorem Rd.takeP {w : World} {A : Option Addr} {n i : Nat} {xs : List Int} (h : Rd w A n xs) (hi : i ≤ n) : Rd w A i (xs.take i) := by
  refine ⟨by rw [List.length_take, h.1]; omega, fun hp => ?_⟩
  obtain ⟨ad, e, hc⟩ := h.2 (by omega)
  refine ⟨ad, e, fun j hj => ?_⟩
  rw [hc j (by omega)]
  have : gi (xs.take i) j = gi xs j := by simp [gi, List.getD, hj]
  rw [this]
theorem dgs_yes {p : List Int} {i : Nat} (h : corner p i = true) : dgs p (i + 1) = dgs p i + dg (lessL p i) := by simp only [dgs, h, if_true]
theorem dgs_no {p : List Int} {i : Nat} (h : corner p i = false) : dgs p (i + 1) = dgs p i := by simp [dgs, h]
theorem degB_all : ∀ p ∈ allPts, degB p = true := by decide +kernel
theorem deg_law {p : List Int} (h : p ∈ allPts) : Pt (onesL (sumI p).toNat) ∧ sumI (onesL (sumI p).toNat) = sumI p ∧ chr p (onesL (sumI p).toNat) = dg p ∧ p.sum = sumI p ∧ 1 ≤ dg p ∧ (sumI p = 1 → dg p = 1) ∧ (1 < sumI p → dgs p p.length = dg p ∧ ∀ i, i < p.length → (0 ≤ dgs p i ∧ dgs p i ≤ 1000 ∧ 0 ≤ dgs p (i + 1) ∧ dgs p (i + 1) ≤ 1000 ∧ (corner p i = true → Pt (lessL p i)))) := by
  have := degB_all p h
  simp only [degB, Bool.and_eq_true, decide_eq_true_eq] at this
  obtain ⟨⟨⟨⟨⟨⟨a, b⟩, c⟩, d⟩, e⟩, f⟩, g⟩ := this
  exact ⟨a, b, c, d, e, f, g⟩

set_option maxRecDepth 100000 in
set_option maxHeartbeats 3200000 in
theorem walk_FnDegree (A0 : Option Addr) (n0 c0 : Nat) (bs0 : List Int) (w : World) (h0 : RdB w A0 n0 bs0) (hm0 : n0 ≤ maxLen ∧ n0 ≤ c0) :
    Calls Try.prog 4 #[.slice A0 n0 c0] w fun e w' => e = .returned (.bool true) ∧ Below w.heap.size w w' := by
  have HB0_0 := Lib.hid h0; have hc0 := hm0.2; have hml0 := hm0.1; clear h0 hm0; unfold maxLen at hml0
  by_cases hbig0 : 1048576 < n0
  · have hd : decide ((1048576 : Int) < n0) = true := by simp; omega
    go_enter Try.func4, Try.ntmps4
    go_wp2
    go_ret
    exact ⟨rfl, Below.refl _ _⟩
  have hd0 : decide ((1048576 : Int) < n0) = false := by simp; omega
  have hnb0 : n0 ≤ 1048576 := by omega
  clear hbig0
  go_enter Try.func4, Try.ntmps4
  go_wp2_with fail
  refine (drawCharDegree_any w A0 n0 c0 bs0 HB0_0.out hnb0 hc0).mono ?_
  rintro e w1 ⟨v, p, rfl, o, hlp, b⟩
  obtain ⟨np, hn⟩ : ∃ n, p.length = n := ⟨_, rfl⟩
  rw [hn] at hlp
  obtain ⟨Ap, cp, rfl, -, -⟩ := o.form' hn
  have HRp := Lib.hid (o.rd hn); have HNp := Lib.hid hn; clear o hn
  have HB := Lib.hid b; have hs := b.size; clear b
  by_cases hv : pt p = true
  · have HV := Lib.hid (Pt_of hv)
    obtain ⟨f1, f2, f3, f4, f5, f6, f7⟩ := deg_law HV.out.all
    have h1p : 1 ≤ np := by have := HV.out.1; rw [HNp.out] at this; exact this
    have h6p : np ≤ 6 := by have := HV.out.len; rw [HNp.out] at this; exact this
    have hsm := HV.out.sum
    obtain ⟨s, hs0⟩ := Int.eq_ofNat_of_zero_le (show 0 ≤ sumI p by omega)
    rw [hs0] at f1 f2 f3 f4 f6 f7 hsm
    have et : ((s : Int)).toNat = s := by omega
    rw [et] at f1 f2 f3
    obtain ⟨d, hd0⟩ : ∃ d, dg p = d := ⟨_, rfl⟩
    rw [hd0] at f3 f5 f6 f7
    have HF1 := Lib.hid f1; have HF2 := Lib.hid f2; have HF3 := Lib.hid f3; have HF4 := Lib.hid f4; have HF6 := Lib.hid f6; have HF7 := Lib.hid f7; have HS := Lib.hid hs0; have HD := Lib.hid hd0
    have hdn : decide (d < 0) = false := by simp; omega
    clear f1 f2 f3 f4 f6 f7 hs0 hd0 et
    go_wp2_with fail
    refine (impl_dgR w1 Ap cp np p HRp.out (by omega) (r := d) (by rw [dgR, if_pos hv]; exact HD.out)).mono ?_
    rintro e w2 ⟨rfl, b⟩
    replace HRp := Lib.hid (HRp.out.below b)
    replace HB := Lib.hid (HB.out.trans (b.mono hs)); replace hs := HB.out.size
    clear b
    go_wp2_with fail
    refine (spec_dgR w2 Ap cp np p HRp.out (by omega) (r := d) (by rw [dgR, if_pos hv]; exact HD.out)).mono ?_
    rintro e w3 ⟨rfl, b⟩
    replace HRp := Lib.hid (HRp.out.below b)
    replace HB := Lib.hid (HB.out.trans (b.mono hs)); replace hs := HB.out.size
    clear b
    have hdd : (d != d) = false := by simp
    go_wp2_with fail
    refine (sumB_any w3 Ap np cp p HRp.out (by omega) (fun j hj => by have := HV.out.le (j := j) (by rw [HNp.out]; exact hj); omega) HF4.out).mono ?_
    rintro e w4 ⟨rfl, b⟩
    replace HRp := Lib.hid (HRp.out.below b)
    replace HB := Lib.hid (HB.out.trans (b.mono hs)); replace hs := HB.out.size
    clear b
    obtain ⟨i0, hinf, hz0, hz1, hz2⟩ := info_parts info_int
    have hs6 : s ≤ 6 := by omega
    go_wp2_with fail
    go_loopw [7, 8] (fun v i wr => ∃ k : Nat, k ≤ s ∧ i = .int .i64 k ∧ Hid (wr.ownsRow w4.heap.size 3 1 v k (ints (onesL k))) ∧ Hid (Below w4.heap.size w4 wr)) (fun _ i _ => s - (intOf i).toNat)
    case atStart => exact ⟨0, Nat.zero_le _, rfl, Own.empty (Nat.le_refl _), (Below.refl _ _).alloc (Nat.le_refl _) _⟩
    case round =>
      obtain ⟨k, hk, rfl, ho, hb⟩ := hrel
      have hbs := hb.out.size
      by_cases hlt : k < s
      · go_wp2_with (at_builtin; refine wpList_append_own _ rfl _ _ 23 rfl w4.heap.size 3 i0 (.int .i64 0) 1 8 Try.underlying23 hinf hz0 hz1 hz2 rfl (by decide) _ _ _ rfl (ho.out.alloc _) ⟨wr.heap.size, 0, none⟩ 1 1 [.int .i64 1] rfl rfl (cell_one_new _ _ _) (by intro u hu; simp at hu; subst hu; rfl) (by unfold maxLen; omega) (by omega) (by simp; omega) ?_; intro v1 wq hown1 hgrow1 _)
        have HO := Lib.hid hown1; have HGR := Lib.hid hgrow1; clear hown1 hgrow1
        go_wp2_with fail
        go_roundw
        case rel =>
          refine ⟨k + 1, by omega, by go_num, ?_, ?_⟩
          · have := HO.out
            rw [Hid, onesL, List.replicate_succ', ints, List.map_append]
            exact this
          · exact (hb.out.alloc hbs _).grown HGR.out (by simp; omega) (fun j hj => (ho.out.lt j hj).1)
        case measure => simp [intOf]; omega
      · obtain rfl : k = s := by omega
        have hown : Own wr w4.heap.size u7 (onesL k) := by unfold Own; rw [show (onesL k).length = k from by simp [onesL]]; exact ho.out
        obtain ⟨Ao, co, rfl, -, -⟩ := hown.form' (n := k) (by simp [onesL])
        have HCAP : Hid (k ≤ co) := hown.capP
        have HROW : Hid (0 < k → ∃ g o, Ao = some ⟨g, o, none⟩ ∧ g < wr.heap.size) := fun hp => by obtain ⟨g, e, hg⟩ := hown.row (by simp [onesL]) hp; exact ⟨g, 0, e, hg⟩
        have HONE : Hid (Rd wr Ao k (onesL k)) := hown.rd (by simp [onesL])
        clear hown ho
        replace HRp := Lib.hid (HRp.out.below hb.out)
        replace HB := Lib.hid (HB.out.trans (hb.out.mono hs)); replace hs := HB.out.size
        have HW := hb; clear hb
        go_wp2_with fail
        refine (impl_chR wr Ap cp np p HRp.out (by omega) Ao co k (onesL k) HONE.out (by omega) HCAP.out HROW.out (ok := true) (r := d) (by rw [chR, if_pos (prB_iff.2 ⟨HV.out, HF1.out, by rw [HS.out, HF2.out]⟩), HF3.out])).mono ?_
        rintro e w5 ⟨rfl, b⟩
        replace HRp := Lib.hid (HRp.out.below b)
        replace HB := Lib.hid (HB.out.trans (b.mono hs)); replace hs := HB.out.size
        replace HW := Lib.hid (HW.out.trans (b.mono HW.out.size))
        clear b
        clear HONE HROW HCAP
        by_cases hmany : 1 < k
        · have hmm := hmany
          have hn1 : decide (1 < k) = true := by simp; omega
          have hn1' : decide ((1 : Int) < (k : Int)) = true := by simp; omega
          obtain ⟨h71, h72⟩ := HF7.out (by omega)
          have H71 := Lib.hid h71; have H72 := Lib.hid h72; clear h71 h72
          go_wp2_with fail
          go_loopw [11, 12] (fun sv iv wz => ∃ (i : Nat) (t : Int), i ≤ np ∧ iv = .int .i64 i ∧ sv = .int .i64 t ∧ Hid (t = dgs p i) ∧ Hid (Below w5.heap.size w5 wz)) (fun _ iv _ => np - (intOf iv).toNat)
          case atStart => exact ⟨0, 0, Nat.zero_le _, rfl, rfl, rfl, Below.refl _ _⟩
          case round =>
            obtain ⟨i, t, hi, rfl, rfl, hT, hB⟩ := hrel
            have hbs := hB.out.size
            by_cases hlt : i < np
            · have hrp := HRp.out.below hB.out
              obtain ⟨adp, hAp, hcp⟩ := hrp.at_ hlt
              subst hAp
              obtain ⟨x, hx, hx1, hx6, -⟩ := HV.out.nat (j := i) (by rw [HNp.out]; exact hlt)
              rw [hx] at hcp
              obtain ⟨t1, t2, t3, t4, t5⟩ := H72.out i (by rw [HNp.out]; exact hlt)
              rw [← hT.out] at t1 t2
              have HT5 := Lib.hid t5; clear t5
              have hbe : Below wr.heap.size wr (wr.alloc (.cells #[] 3)) := (Below.refl _ _).alloc (Nat.le_refl _) _
              have HNW := Lib.hid (hrp.below hbe).news
              have HLN : Hid ((ints p).length = np * 1) := by rw [Hid, ints_len, HNp.out, Nat.mul_one]
              have HE : Hid (Own (wr.alloc (.cells #[] 3)) wr.heap.size (.slice (some ⟨wr.heap.size, 0, none⟩) 0 0) []) := Own.empty (Nat.le_refl _)
              have HBE := Lib.hid hbe; have HX := Lib.hid hx; have HRQ := Lib.hid hrp
              clear hbe hx hrp
              by_cases hone : x = 1
              · have hx0 : gi p i = 1 := by rw [HX.out, hone]; rfl
                have hc1 : (((x : Int)) - 1 == 0) = true := by simp; omega
                rw [hone] at hcp
                go_wp2_with (at_builtin; refine wpList_append_own _ rfl (.tmp 56) (.tmp 57) 23 rfl wr.heap.size 3 i0 (.int .i64 0) 1 8 Try.underlying23 hinf hz0 hz1 hz2 rfl (by decide) _ 0 [] rfl HE.out adp np cp (ints p) rfl HLN.out HNW.out ints_one (by unfold maxLen; omega) (by omega) (by simp) ?_; intro v1 wq hown1 hgrow1 _; have hoa : Own wq wr.heap.size v1 p := (by unfold Own; rw [HNp.out]; simpa using hown1); have HOA := Lib.hid hoa; clear hoa; have HGA := Lib.hid (HBE.out.grown hgrow1 (by simp) (fun k hk => (HE.out.lt k hk).1)); clear hown1 hgrow1; obtain ⟨Al, cl, rfl, -, -⟩ := HOA.out.form' HNp.out; obtain ⟨gl, rfl, hgl, hcl, hfl⟩ := HOA.out.cellAt HNp.out hlt; rw [HX.out, hone] at hcl; have HST := Lib.hid (HOA.out.stored HNp.out i 0); have hcpl := HOA.out.capP; have hil : i ≤ cl := (by omega); have hil' : (i : Int) ≤ (cl : Int) := (by omega))
                obtain ⟨W, hW⟩ : ∃ W, wq.setCell ⟨gl, i, none⟩ (.int .i64 0) = W := ⟨_, rfl⟩
                have HOW : Hid (Own W wr.heap.size (.slice (some ⟨gl, 0, none⟩) np cl) (p.set i 0)) := by rw [Hid, ← hW]; exact HST.out.1
                have HBW : Hid (Below wr.heap.size wr W) := by rw [Hid, ← hW]; exact HGA.out.setCell hgl _
                rw [hW]
                clear hW HST hcl hfl
                have hrw := HRQ.out.below HBW.out
                obtain ⟨_, e1, hcp2⟩ := hrw.at_ hlt
                injection e1 with e1; subst e1
                rw [HX.out, hone] at hcp2
                obtain ⟨i1, hi1⟩ : ∃ i1, i1 = i + 1 := ⟨_, rfl⟩
                have g1 : IntKind.i64.wrap ((i : Int) + 1) = (i1 : Int) := wadd1 hi1 (by omega)
                have HI1 := Lib.hid hi1; have hi1n : i1 ≤ np := by omega
                clear hi1
                by_cases hend : i1 = np
                · have g2 : ((i1 : Int) == (np : Int)) = true := by simp; omega
                  have HEND := Lib.hid hend; clear hend
                  have HCOR : Hid (corner p i = true) := by rw [Hid, corner, HNp.out]; simp; left; have := HI1.out; have := HEND.out; omega
                  have hpt := HT5.out HCOR.out
                  have hls : lessL p i = ((p.set i 0).take i) := by rw [lessL, if_pos hx0, hx0]; rfl
                  have hdy := dgs_yes HCOR.out
                  rw [← hT.out] at hdy
                  obtain ⟨dl, hdl⟩ : ∃ dl, dg (lessL p i) = dl := ⟨_, rfl⟩
                  rw [hdl] at hdy
                  rw [hdy] at t3 t4
                  obtain ⟨tt, htt⟩ : ∃ tt, t + dl = tt := ⟨_, rfl⟩
                  rw [htt] at hdy t3 t4
                  have g3 : IntKind.i64.wrap (t + dl) = tt := by rw [htt]; exact IntWalk.i64_in _ (by omega)
                  have HPT := Lib.hid hpt; have HLS := Lib.hid hls; have HDY := Lib.hid hdy; have HDL := Lib.hid hdl
                  clear hpt hls hdy hdl htt
                  go_wp2_with fail
                  go_quiet (fail)
                  go_wp2_with fail
                  refine (impl_dgR _ (some ⟨gl, 0, none⟩) _ i ((p.set i 0).take i) (Rd.drewN ((HOW.out.rd (by rw [List.length_set]; exact HNp.out)).takeP (by omega)) _) (by omega) (r := dl) (by rw [← HLS.out, dgR, if_pos (pt_true HPT.out)]; exact HDL.out)).mono ?_
                  rintro e wz ⟨rfl, bz⟩
                  have HBZ : Hid (Below w5.heap.size w5 wz) := hB.out.trans (((below_drewN HBW.out _).trans (bz.mono (below_drewN HBW.out _).size)).mono hbs)
                  clear bz
                  go_wp2_with fail
                  go_roundw
                  case rel => exact ⟨i + 1, tt, by omega, by first | go_num | rw [HI1.out], by first | rfl | exact congrArg (Value.int .i64) g3, HDY.out.symm, HBZ.out⟩
                  case measure => have := HI1.out; simp [intOf]; omega
                · have g2 : ((i1 : Int) == (np : Int)) = false := by simp; omega
                  have hlt3 : i1 < np := by omega
                  have HEND := Lib.hid hend; clear hend
                  obtain ⟨_, e1, hcp3⟩ := hrw.at_ hlt3
                  injection e1 with e1; subst e1
                  obtain ⟨y, hy⟩ : ∃ y, gi p i1 = y := ⟨_, rfl⟩
                  rw [hy] at hcp3
                  have HY := Lib.hid hy; clear hy
                  by_cases hyx : y < (1 : Int)
                  · have g5 : decide (y < (1 : Int)) = true := by simpa using hyx
                    have HCOR : Hid (corner p i = true) := by have e1 := HY.out; rw [HI1.out] at e1; rw [Hid, corner, e1, HX.out]; simp only [Bool.or_eq_true, decide_eq_true_eq]; right; omega
                    have hpt := HT5.out HCOR.out
                    have hls : lessL p i = ((p.set i 0).take i) := by rw [lessL, if_pos hx0, hx0]; rfl
                    have hdy := dgs_yes HCOR.out
                    rw [← hT.out] at hdy
                    obtain ⟨dl, hdl⟩ : ∃ dl, dg (lessL p i) = dl := ⟨_, rfl⟩
                    rw [hdl] at hdy
                    rw [hdy] at t3 t4
                    obtain ⟨tt, htt⟩ : ∃ tt, t + dl = tt := ⟨_, rfl⟩
                    rw [htt] at hdy t3 t4
                    have g3 : IntKind.i64.wrap (t + dl) = tt := by rw [htt]; exact IntWalk.i64_in _ (by omega)
                    have HPT := Lib.hid hpt; have HLS := Lib.hid hls; have HDY := Lib.hid hdy; have HDL := Lib.hid hdl
                    clear hpt hls hdy hdl htt
                    go_wp2_with fail
                    go_quiet (fail)
                    go_wp2_with fail
                    refine (impl_dgR _ (some ⟨gl, 0, none⟩) _ i ((p.set i 0).take i) (Rd.drewN ((HOW.out.rd (by rw [List.length_set]; exact HNp.out)).takeP (by omega)) _) (by omega) (r := dl) (by rw [← HLS.out, dgR, if_pos (pt_true HPT.out)]; exact HDL.out)).mono ?_
                    rintro e wz ⟨rfl, bz⟩
                    have HBZ : Hid (Below w5.heap.size w5 wz) := hB.out.trans (((below_drewN HBW.out _).trans (bz.mono (below_drewN HBW.out _).size)).mono hbs)
                    clear bz
                    go_wp2_with fail
                    go_roundw
                    case rel => exact ⟨i + 1, tt, by omega, by first | go_num | rw [HI1.out], by first | rfl | exact congrArg (Value.int .i64) g3, HDY.out.symm, HBZ.out⟩
                    case measure => have := HI1.out; simp [intOf]; omega
                  · have g5 : decide (y < (1 : Int)) = false := by simpa using hyx
                    have HDN := Lib.hid (dgs_no (p := p) (i := i) (by have e1 := HY.out; have e2 := HI1.out; have e3 := HEND.out; rw [e2] at e1 e3; rw [corner, e1, HX.out, HNp.out]; simp only [Bool.or_eq_false_iff, decide_eq_false_iff_not]; constructor <;> omega))
                    go_wp2_with fail
                    go_quiet (fail)
                    go_wp2_with fail
                    go_roundw
                    case rel => exact ⟨i + 1, t, by omega, by first | go_num | rw [HI1.out], rfl, by rw [Hid, HDN.out]; exact hT.out, hB.out.trans ((below_drewN HBW.out _).mono hbs)⟩
                    case measure => have := HI1.out; simp [intOf]; omega
              · have hc1 : (((x : Int)) - 1 == 0) = false := by simp; omega
                go_wp2_with (at_builtin; refine wpList_append_own _ rfl (.tmp 56) (.tmp 57) 23 rfl wr.heap.size 3 i0 (.int .i64 0) 1 8 Try.underlying23 hinf hz0 hz1 hz2 rfl (by decide) _ 0 [] rfl HE.out adp np cp (ints p) rfl HLN.out HNW.out ints_one (by unfold maxLen; omega) (by omega) (by simp) ?_; intro v1 wq hown1 hgrow1 _; have hoa : Own wq wr.heap.size v1 p := (by unfold Own; rw [HNp.out]; simpa using hown1); have HOA := Lib.hid hoa; clear hoa; have HGA := Lib.hid (HBE.out.grown hgrow1 (by simp) (fun k hk => (HE.out.lt k hk).1)); clear hown1 hgrow1; obtain ⟨Al, cl, rfl, -, -⟩ := HOA.out.form' HNp.out; obtain ⟨gl, rfl, hgl, hcl, hfl⟩ := HOA.out.cellAt HNp.out hlt; rw [HX.out] at hcl; have HST := Lib.hid (HOA.out.stored HNp.out i ((x : Int) - 1)); have hcpl := HOA.out.capP; have hil : i ≤ cl := (by omega); have hil' : (i : Int) ≤ (cl : Int) := (by omega))
                obtain ⟨W, hW⟩ : ∃ W, wq.setCell ⟨gl, i, none⟩ (.int .i64 ((x : Int) - 1)) = W := ⟨_, rfl⟩
                have HOW : Hid (Own W wr.heap.size (.slice (some ⟨gl, 0, none⟩) np cl) (p.set i ((x : Int) - 1))) := by rw [Hid, ← hW]; exact HST.out.1
                have HBW : Hid (Below wr.heap.size wr W) := by rw [Hid, ← hW]; exact HGA.out.setCell hgl _
                rw [hW]
                clear hW HST hcl hfl
                have hrw := HRQ.out.below HBW.out
                obtain ⟨_, e1, hcp2⟩ := hrw.at_ hlt
                injection e1 with e1; subst e1
                rw [HX.out] at hcp2
                obtain ⟨i1, hi1⟩ : ∃ i1, i1 = i + 1 := ⟨_, rfl⟩
                have g1 : IntKind.i64.wrap ((i : Int) + 1) = (i1 : Int) := wadd1 hi1 (by omega)
                have HI1 := Lib.hid hi1; have hi1n : i1 ≤ np := by omega
                clear hi1
                by_cases hend : i1 = np
                · have g2 : ((i1 : Int) == (np : Int)) = true := by simp; omega
                  have HEND := Lib.hid hend; clear hend
                  have HCOR : Hid (corner p i = true) := by rw [Hid, corner, HNp.out]; simp; left; have := HI1.out; have := HEND.out; omega
                  have hpt := HT5.out HCOR.out
                  have hls : lessL p i = (p.set i ((x : Int) - 1)) := by rw [lessL, if_neg (by rw [HX.out]; omega), HX.out]
                  have hdy := dgs_yes HCOR.out
                  rw [← hT.out] at hdy
                  obtain ⟨dl, hdl⟩ : ∃ dl, dg (lessL p i) = dl := ⟨_, rfl⟩
                  rw [hdl] at hdy
                  rw [hdy] at t3 t4
                  obtain ⟨tt, htt⟩ : ∃ tt, t + dl = tt := ⟨_, rfl⟩
                  rw [htt] at hdy t3 t4
                  have g3 : IntKind.i64.wrap (t + dl) = tt := by rw [htt]; exact IntWalk.i64_in _ (by omega)
                  have HPT := Lib.hid hpt; have HLS := Lib.hid hls; have HDY := Lib.hid hdy; have HDL := Lib.hid hdl
                  clear hpt hls hdy hdl htt
                  go_wp2_with fail
                  go_quiet (fail)
                  go_wp2_with fail
                  refine (impl_dgR _ (some ⟨gl, 0, none⟩) _ np (p.set i ((x : Int) - 1)) (Rd.drewN (HOW.out.rd (by rw [List.length_set]; exact HNp.out)) _) (by omega) (r := dl) (by rw [← HLS.out, dgR, if_pos (pt_true HPT.out)]; exact HDL.out)).mono ?_
                  rintro e wz ⟨rfl, bz⟩
                  have HBZ : Hid (Below w5.heap.size w5 wz) := hB.out.trans (((below_drewN HBW.out _).trans (bz.mono (below_drewN HBW.out _).size)).mono hbs)
                  clear bz
                  go_wp2_with fail
                  go_roundw
                  case rel => exact ⟨i + 1, tt, by omega, by first | go_num | rw [HI1.out], by first | rfl | exact congrArg (Value.int .i64) g3, HDY.out.symm, HBZ.out⟩
                  case measure => have := HI1.out; simp [intOf]; omega
                · have g2 : ((i1 : Int) == (np : Int)) = false := by simp; omega
                  have hlt3 : i1 < np := by omega
                  have HEND := Lib.hid hend; clear hend
                  obtain ⟨_, e1, hcp3⟩ := hrw.at_ hlt3
                  injection e1 with e1; subst e1
                  obtain ⟨y, hy⟩ : ∃ y, gi p i1 = y := ⟨_, rfl⟩
                  rw [hy] at hcp3
                  have HY := Lib.hid hy; clear hy
                  by_cases hyx : y < (x : Int)
                  · have g5 : decide (y < (x : Int)) = true := by simpa using hyx
                    have HCOR : Hid (corner p i = true) := by have e1 := HY.out; rw [HI1.out] at e1; rw [Hid, corner, e1, HX.out]; simp only [Bool.or_eq_true, decide_eq_true_eq]; right; omega
                    have hpt := HT5.out HCOR.out
                    have hls : lessL p i = (p.set i ((x : Int) - 1)) := by rw [lessL, if_neg (by rw [HX.out]; omega), HX.out]
                    have hdy := dgs_yes HCOR.out
                    rw [← hT.out] at hdy
                    obtain ⟨dl, hdl⟩ : ∃ dl, dg (lessL p i) = dl := ⟨_, rfl⟩
                    rw [hdl] at hdy
                    rw [hdy] at t3 t4
                    obtain ⟨tt, htt⟩ : ∃ tt, t + dl = tt := ⟨_, rfl⟩
                    rw [htt] at hdy t3 t4
                    have g3 : IntKind.i64.wrap (t + dl) = tt := by rw [htt]; exact IntWalk.i64_in _ (by omega)
                    have HPT := Lib.hid hpt; have HLS := Lib.hid hls; have HDY := Lib.hid hdy; have HDL := Lib.hid hdl
                    clear hpt hls hdy hdl htt
                    go_wp2_with fail
                    go_quiet (fail)
                    go_wp2_with fail
                    refine (impl_dgR _ (some ⟨gl, 0, none⟩) _ np (p.set i ((x : Int) - 1)) (Rd.drewN (HOW.out.rd (by rw [List.length_set]; exact HNp.out)) _) (by omega) (r := dl) (by rw [← HLS.out, dgR, if_pos (pt_true HPT.out)]; exact HDL.out)).mono ?_
                    rintro e wz ⟨rfl, bz⟩
                    have HBZ : Hid (Below w5.heap.size w5 wz) := hB.out.trans (((below_drewN HBW.out _).trans (bz.mono (below_drewN HBW.out _).size)).mono hbs)
                    clear bz
                    go_wp2_with fail
                    go_roundw
                    case rel => exact ⟨i + 1, tt, by omega, by first | go_num | rw [HI1.out], by first | rfl | exact congrArg (Value.int .i64) g3, HDY.out.symm, HBZ.out⟩
                    case measure => have := HI1.out; simp [intOf]; omega
                  · have g5 : decide (y < (x : Int)) = false := by simpa using hyx
                    have HDN := Lib.hid (dgs_no (p := p) (i := i) (by have e1 := HY.out; have e2 := HI1.out; have e3 := HEND.out; rw [e2] at e1 e3; rw [corner, e1, HX.out, HNp.out]; simp only [Bool.or_eq_false_iff, decide_eq_false_iff_not]; constructor <;> omega))
                    go_wp2_with fail
                    go_quiet (fail)
                    go_wp2_with fail
                    go_roundw
                    case rel => exact ⟨i + 1, t, by omega, by first | go_num | rw [HI1.out], rfl, by rw [Hid, HDN.out]; exact hT.out, hB.out.trans ((below_drewN HBW.out _).mono hbs)⟩
                    case measure => have := HI1.out; simp [intOf]; omega
            · obtain rfl : i = np := by omega
              have HTD : Hid (t = d) := by rw [Hid, hT.out]; have := H71.out; rw [HNp.out] at this; exact this
              have htd : (t == d) = true := by rw [HTD.out]; simp
              have hk1 : ((k : Int) == 1) = false := by simp; omega
              have hddt : (d == d) = true := by simp
              go_wp2_with fail
              go_ret
              exact ⟨rfl, HB.out.trans (hB.out.mono hs)⟩
        · have hmm := hmany
          have hn1 : decide (1 < k) = false := by simp; omega
          have hn1' : decide ((1 : Int) < (k : Int)) = false := by simp; omega
          go_wp2_with fail
          go_loopw [11, 12] (fun sv iv wz => ∃ (i : Nat) (t : Int), i ≤ np ∧ iv = .int .i64 i ∧ sv = .int .i64 t ∧ Hid (t = 0) ∧ Hid (Below w5.heap.size w5 wz)) (fun _ iv _ => np - (intOf iv).toNat)
          case atStart => exact ⟨0, 0, Nat.zero_le _, rfl, rfl, rfl, Below.refl _ _⟩
          case round =>
            obtain ⟨i, t, hi, rfl, rfl, hT, hB⟩ := hrel
            have hbs := hB.out.size
            by_cases hlt : i < np
            · have hrp := HRp.out.below hB.out
              obtain ⟨adp, hAp, hcp⟩ := hrp.at_ hlt
              subst hAp
              obtain ⟨x, hx, hx1, hx6, -⟩ := HV.out.nat (j := i) (by rw [HNp.out]; exact hlt)
              rw [hx] at hcp
              have hbe : Below wr.heap.size wr (wr.alloc (.cells #[] 3)) := (Below.refl _ _).alloc (Nat.le_refl _) _
              have HNW := Lib.hid (hrp.below hbe).news
              have HLN : Hid ((ints p).length = np * 1) := by rw [Hid, ints_len, HNp.out, Nat.mul_one]
              have HE : Hid (Own (wr.alloc (.cells #[] 3)) wr.heap.size (.slice (some ⟨wr.heap.size, 0, none⟩) 0 0) []) := Own.empty (Nat.le_refl _)
              have HBE := Lib.hid hbe; have HX := Lib.hid hx; have HRQ := Lib.hid hrp
              clear hbe hx hrp
              by_cases hone : x = 1
              · have hx0 : gi p i = 1 := by rw [HX.out, hone]; rfl
                have hc1 : (((x : Int)) - 1 == 0) = true := by simp; omega
                rw [hone] at hcp
                go_wp2_with (at_builtin; refine wpList_append_own _ rfl (.tmp 56) (.tmp 57) 23 rfl wr.heap.size 3 i0 (.int .i64 0) 1 8 Try.underlying23 hinf hz0 hz1 hz2 rfl (by decide) _ 0 [] rfl HE.out adp np cp (ints p) rfl HLN.out HNW.out ints_one (by unfold maxLen; omega) (by omega) (by simp) ?_; intro v1 wq hown1 hgrow1 _; have hoa : Own wq wr.heap.size v1 p := (by unfold Own; rw [HNp.out]; simpa using hown1); have HOA := Lib.hid hoa; clear hoa; have HGA := Lib.hid (HBE.out.grown hgrow1 (by simp) (fun k hk => (HE.out.lt k hk).1)); clear hown1 hgrow1; obtain ⟨Al, cl, rfl, -, -⟩ := HOA.out.form' HNp.out; obtain ⟨gl, rfl, hgl, hcl, hfl⟩ := HOA.out.cellAt HNp.out hlt; rw [HX.out, hone] at hcl; have HST := Lib.hid (HOA.out.stored HNp.out i 0); have hcpl := HOA.out.capP; have hil : i ≤ cl := (by omega); have hil' : (i : Int) ≤ (cl : Int) := (by omega))
                obtain ⟨W, hW⟩ : ∃ W, wq.setCell ⟨gl, i, none⟩ (.int .i64 0) = W := ⟨_, rfl⟩
                have HOW : Hid (Own W wr.heap.size (.slice (some ⟨gl, 0, none⟩) np cl) (p.set i 0)) := by rw [Hid, ← hW]; exact HST.out.1
                have HBW : Hid (Below wr.heap.size wr W) := by rw [Hid, ← hW]; exact HGA.out.setCell hgl _
                rw [hW]
                clear hW HST hcl hfl
                have hrw := HRQ.out.below HBW.out
                obtain ⟨_, e1, hcp2⟩ := hrw.at_ hlt
                injection e1 with e1; subst e1
                rw [HX.out, hone] at hcp2
                obtain ⟨i1, hi1⟩ : ∃ i1, i1 = i + 1 := ⟨_, rfl⟩
                have g1 : IntKind.i64.wrap ((i : Int) + 1) = (i1 : Int) := wadd1 hi1 (by omega)
                have HI1 := Lib.hid hi1; have hi1n : i1 ≤ np := by omega
                clear hi1
                by_cases hend : i1 = np
                · have g2 : ((i1 : Int) == (np : Int)) = true := by simp; omega
                  have HEND := Lib.hid hend; clear hend
                  go_wp2_with fail
                  go_quiet (fail)
                  go_wp2_with fail
                  go_roundw
                  case rel => exact ⟨i + 1, t, by omega, by first | go_num | rw [HI1.out], rfl, hT.out, hB.out.trans ((below_drewN HBW.out _).mono hbs)⟩
                  case measure => have := HI1.out; simp [intOf]; omega
                · have g2 : ((i1 : Int) == (np : Int)) = false := by simp; omega
                  have hlt3 : i1 < np := by omega
                  have HEND := Lib.hid hend; clear hend
                  obtain ⟨_, e1, hcp3⟩ := hrw.at_ hlt3
                  injection e1 with e1; subst e1
                  obtain ⟨y, hy⟩ : ∃ y, gi p i1 = y := ⟨_, rfl⟩
                  rw [hy] at hcp3
                  have HY := Lib.hid hy; clear hy
                  by_cases hyx : y < (1 : Int)
                  · have g5 : decide (y < (1 : Int)) = true := by simpa using hyx
                    go_wp2_with fail
                    go_quiet (fail)
                    go_wp2_with fail
                    go_roundw
                    case rel => exact ⟨i + 1, t, by omega, by first | go_num | rw [HI1.out], rfl, hT.out, hB.out.trans ((below_drewN HBW.out _).mono hbs)⟩
                    case measure => have := HI1.out; simp [intOf]; omega
                  · have g5 : decide (y < (1 : Int)) = false := by simpa using hyx
                    go_wp2_with fail
                    go_quiet (fail)
                    go_wp2_with fail
                    go_roundw
                    case rel => exact ⟨i + 1, t, by omega, by first | go_num | rw [HI1.out], rfl, hT.out, hB.out.trans ((below_drewN HBW.out _).mono hbs)⟩
                    case measure => have := HI1.out; simp [intOf]; omega
              · have hc1 : (((x : Int)) - 1 == 0) = false := by simp; omega
                go_wp2_with (at_builtin; refine wpList_append_own _ rfl (.tmp 56) (.tmp 57) 23 rfl wr.heap.size 3 i0 (.int .i64 0) 1 8 Try.underlying23 hinf hz0 hz1 hz2 rfl (by decide) _ 0 [] rfl HE.out adp np cp (ints p) rfl HLN.out HNW.out ints_one (by unfold maxLen; omega) (by omega) (by simp) ?_; intro v1 wq hown1 hgrow1 _; have hoa : Own wq wr.heap.size v1 p := (by unfold Own; rw [HNp.out]; simpa using hown1); have HOA := Lib.hid hoa; clear hoa; have HGA := Lib.hid (HBE.out.grown hgrow1 (by simp) (fun k hk => (HE.out.lt k hk).1)); clear hown1 hgrow1; obtain ⟨Al, cl, rfl, -, -⟩ := HOA.out.form' HNp.out; obtain ⟨gl, rfl, hgl, hcl, hfl⟩ := HOA.out.cellAt HNp.out hlt; rw [HX.out] at hcl; have HST := Lib.hid (HOA.out.stored HNp.out i ((x : Int) - 1)); have hcpl := HOA.out.capP; have hil : i ≤ cl := (by omega); have hil' : (i : Int) ≤ (cl : Int) := (by omega))
                obtain ⟨W, hW⟩ : ∃ W, wq.setCell ⟨gl, i, none⟩ (.int .i64 ((x : Int) - 1)) = W := ⟨_, rfl⟩
                have HOW : Hid (Own W wr.heap.size (.slice (some ⟨gl, 0, none⟩) np cl) (p.set i ((x : Int) - 1))) := by rw [Hid, ← hW]; exact HST.out.1
                have HBW : Hid (Below wr.heap.size wr W) := by rw [Hid, ← hW]; exact HGA.out.setCell hgl _
                rw [hW]
                clear hW HST hcl hfl
                have hrw := HRQ.out.below HBW.out
                obtain ⟨_, e1, hcp2⟩ := hrw.at_ hlt
                injection e1 with e1; subst e1
                rw [HX.out] at hcp2
                obtain ⟨i1, hi1⟩ : ∃ i1, i1 = i + 1 := ⟨_, rfl⟩
                have g1 : IntKind.i64.wrap ((i : Int) + 1) = (i1 : Int) := wadd1 hi1 (by omega)
                have HI1 := Lib.hid hi1; have hi1n : i1 ≤ np := by omega
                clear hi1
                by_cases hend : i1 = np
                · have g2 : ((i1 : Int) == (np : Int)) = true := by simp; omega
                  have HEND := Lib.hid hend; clear hend
                  go_wp2_with fail
                  go_quiet (fail)
                  go_wp2_with fail
                  go_roundw
                  case rel => exact ⟨i + 1, t, by omega, by first | go_num | rw [HI1.out], rfl, hT.out, hB.out.trans ((below_drewN HBW.out _).mono hbs)⟩
                  case measure => have := HI1.out; simp [intOf]; omega
                · have g2 : ((i1 : Int) == (np : Int)) = false := by simp; omega
                  have hlt3 : i1 < np := by omega
                  have HEND := Lib.hid hend; clear hend
                  obtain ⟨_, e1, hcp3⟩ := hrw.at_ hlt3
                  injection e1 with e1; subst e1
                  obtain ⟨y, hy⟩ : ∃ y, gi p i1 = y := ⟨_, rfl⟩
                  rw [hy] at hcp3
                  have HY := Lib.hid hy; clear hy
                  by_cases hyx : y < (x : Int)
                  · have g5 : decide (y < (x : Int)) = true := by simpa using hyx
                    go_wp2_with fail
                    go_quiet (fail)
                    go_wp2_with fail
                    go_roundw
                    case rel => exact ⟨i + 1, t, by omega, by first | go_num | rw [HI1.out], rfl, hT.out, hB.out.trans ((below_drewN HBW.out _).mono hbs)⟩
                    case measure => have := HI1.out; simp [intOf]; omega
                  · have g5 : decide (y < (x : Int)) = false := by simpa using hyx
                    go_wp2_with fail
                    go_quiet (fail)
                    go_wp2_with fail
                    go_roundw
                    case rel => exact ⟨i + 1, t, by omega, by first | go_num | rw [HI1.out], rfl, hT.out, hB.out.trans ((below_drewN HBW.out _).mono hbs)⟩
                    case measure => have := HI1.out; simp [intOf]; omega
            · obtain rfl : i = np := by omega
              have HD1 : Hid (d = 1) := HF6.out (by omega)
              have hd1 : (d == 1) = true := by rw [HD1.out]; rfl
              have hk1 : ((k : Int) == 1) = true := by simp; omega
              have hddt : (d == d) = true := by simp
              go_wp2_with fail
              go_ret
              exact ⟨rfl, HB.out.trans (hB.out.mono hs)⟩
  · have HV := Lib.hid hv
    go_wp2_with fail
    refine (impl_dgR w1 Ap cp np p HRp.out (by omega) (r := -1) (by rw [dgR, if_neg hv])).mono ?_
    rintro e w2 ⟨rfl, b⟩
    have HR2 := Lib.hid (HRp.out.below b); have HB2 := Lib.hid (HB.out.trans (b.mono hs)); clear b
    go_wp2_with fail
    refine (spec_dgR w2 Ap cp np p HR2.out (by omega) (r := -1) (by rw [dgR, if_neg hv])).mono ?_
    rintro e w3 ⟨rfl, b⟩
    have HB3 := Lib.hid (HB2.out.trans (b.mono HB2.out.size)); clear b
    go_wp2_with fail
    go_ret
    exact ⟨rfl, HB3.out⟩

end Go.Proofs.Ytcfjbblmfbbocaa
