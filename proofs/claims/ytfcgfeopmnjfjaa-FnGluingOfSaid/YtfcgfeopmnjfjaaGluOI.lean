/-
  GluingOf: the program's.
-/
import Derived.Test.YtfcgfeopmnjfjaaGluO
namespace Go.Proofs.Ytfcgfeopmnjfjaa
open Go.RowKit

set_option maxHeartbeats 3200000 in
theorem impl_gofR (w : World) (A A' : Option Addr) (n n' c c' : Nat) (t f : List Int) (h : Rd w A n t) (h' : Rd w A' n' f) (hn : n ≤ 1048576) (hn' : n' ≤ 1048576) (x : Int) (hw : (Lit.int .i64 x).wf = true) {ok : Bool} {ys : List Int} (hR : gofR t f x = (ok, ys)) :
    Calls Try.prog 33 #[.agg #[.slice A n c, .slice A' n' c'], .int .i64 x] w fun e w' => ∃ v, e = .returned (.tuple #[v, .bool ok]) ∧ Own w' w.heap.size v ys ∧ Below w.heap.size w w' := by
  obtain ⟨W0, hW0, hx, hb, -⟩ := Box.local_ w 36 (.slice A n c) (.slice A' n' c')
  have c0 := hx.cell0
  have c1 := hx.cell1
  have HX := Lib.hid hx; have HB := Lib.hid hb; have H := Lib.hid h; have H' := Lib.hid h'; have HR := Lib.hid hR; clear hx hb h h' hR
  by_cases hv : mapV t f = true
  · have hm := mapV_iff.1 hv
    obtain rfl : n = n' := hm.same H.out.1 H'.out.1
    have hn12 : n ≤ 12 := by rw [← H.out.1]; exact hm.turn.2.1
    have HM := Lib.hid hm; have HV := Lib.hid hv; clear hm hv
    by_cases hd : dartB n x = true
    · have HD := Lib.hid hd
      have hd' := dartB_iff.1 hd
      clear hd
      obtain ⟨d, rfl⟩ := Int.eq_ofNat_of_zero_le hd'.1
      have hdn : d < n := by omega
      clear hd'
      by_cases h10 : 10 < n
      · have hd1 : decide ((10 : Int) < n) = true := by simp; omega
        obtain ⟨rfl, rfl⟩ := gofR_no HR.out (by rw [Bool.eq_false_iff]; intro e; have := (isOf_iff.1 e).2.2.1; rw [H.out.1] at this; omega)
        go_enter Try.func33, Try.ntmps33
        go_wp2_with fail
        refine (valid_lit w.heap.size A A' n n c c' t f W0 HX.out (H.out.below HB.out) (H'.out.below HB.out) (by omega) (by omega) HV.out).mono ?_
        rintro e w1 ⟨rfl, b⟩
        have hx := HX.out.below b
        clear c0 c1
        have c0 := hx.cell0
        have c1 := hx.cell1
        have HB1 := Lib.hid (HB.out.trans (b.mono HB.out.size)); have HX1 := Lib.hid hx; clear b hx
        go_wp2_with fail
        refine (hasDart_lit w1 w.heap.size A A' n n c c' HX1.out (d : Int) HD.out).mono ?_
        rintro e w2 ⟨rfl, rfl⟩
        go_wp2_with fail
        go_ret2
        exact ⟨_, rfl, Own.nil_ _ _, HB1.out⟩
      have hd1 : decide ((10 : Int) < n) = false := by simp; omega
      have hfl : (mulL f t).length = n := (mulL_len f t).trans H'.out.1
      have HFL := Lib.hid hfl
      have hmu := HM.out.flip.mulL HM.out.turn HM.out.len.symm
      obtain ⟨Fn, hF⟩ : ∃ Fn, (cyclesL (mulL f t)).length = Fn := ⟨_, rfl⟩
      have HF := Lib.hid hF; have HMU := Lib.hid hmu; clear hF hmu hfl
      by_cases h1 : ¬ Fn = 1
      · have hd2 : ((Fn : Int) != 1) = true := by simp; omega
        obtain ⟨rfl, rfl⟩ := gofR_no HR.out (by rw [Bool.eq_false_iff]; intro e; have : cntF t f = Fn := HF.out; have := (isOf_iff.1 e).2.2.2; omega)
        go_enter Try.func33, Try.ntmps33
        go_wp2_with fail
        refine (valid_lit w.heap.size A A' n n c c' t f W0 HX.out (H.out.below HB.out) (H'.out.below HB.out) (by omega) (by omega) HV.out).mono ?_
        rintro e w1 ⟨rfl, b⟩
        have hx := HX.out.below b
        clear c0 c1
        have c0 := hx.cell0
        have c1 := hx.cell1
        have HB1 := Lib.hid (HB.out.trans (b.mono HB.out.size)); have HX1 := Lib.hid hx; clear b hx
        go_wp2_with fail
        refine (hasDart_lit w1 w.heap.size A A' n n c c' HX1.out (d : Int) HD.out).mono ?_
        rintro e w2 ⟨rfl, rfl⟩
        go_wp2_with fail
        refine (faces_any w.heap.size A A' n c c' t f w1 HX1.out (H.out.below HB1.out) (H'.out.below HB1.out) HM.out.flip).mono ?_
        rintro e w3 ⟨v, rfl, o, b⟩
        obtain ⟨A3, c3, rfl, r3, -⟩ := o.form' HFL.out
        have R3 := Lib.hid r3
        have hx := HX1.out.below b
        clear c0 c1
        have c0 := hx.cell0
        have c1 := hx.cell1
        have HB3 := Lib.hid (HB1.out.trans (b.mono HB1.out.size)); clear b hx o r3
        go_wp2_with fail
        refine (count_any w3 A3 c3 n (mulL f t) R3.out HMU.out).mono ?_
        rintro e w4 ⟨rfl, b⟩
        rw [HF.out]
        have HB4 := Lib.hid (HB3.out.trans (b.mono HB3.out.size)); clear b
        go_wp2_with fail
        go_ret2
        exact ⟨_, rfl, Own.nil_ _ _, HB4.out⟩
      · have hd2 : ((Fn : Int) != 1) = false := by simp; omega
        have h1' : Fn = 1 := by omega
        have hof : isOf t f (d : Int) = true := isOf_iff.2 ⟨HM.out, ⟨by omega, by rw [H.out.1]; omega⟩, by rw [H.out.1]; omega, HF.out.trans h1'⟩
        obtain ⟨rfl, rfl⟩ : ok = true ∧ ys = conjL f (sideL (mulL f t) d) := by have := HR.out; rw [gofR, if_pos hof, Int.toNat_natCast] at this; simpa [eq_comm] using this
        have HPR := Lib.hid (one_ring HMU.out (HF.out.trans h1') (d := d) (by rw [HFL.out]; exact hdn))
        obtain ⟨i0, hinf, hz0, hz1, hz2⟩ := info_parts info_int
        clear hof h1' h1
        go_enter Try.func33, Try.ntmps33
        go_wp2_with fail
        refine (valid_lit w.heap.size A A' n n c c' t f W0 HX.out (H.out.below HB.out) (H'.out.below HB.out) (by omega) (by omega) HV.out).mono ?_
        rintro e w1 ⟨rfl, b⟩
        have hx := HX.out.below b
        clear c0 c1
        have c0 := hx.cell0
        have c1 := hx.cell1
        have HB1 := Lib.hid (HB.out.trans (b.mono HB.out.size)); have HX1 := Lib.hid hx; clear b hx
        go_wp2_with fail
        refine (hasDart_lit w1 w.heap.size A A' n n c c' HX1.out (d : Int) HD.out).mono ?_
        rintro e w2 ⟨rfl, rfl⟩
        go_wp2_with fail
        refine (faces_any w.heap.size A A' n c c' t f w1 HX1.out (H.out.below HB1.out) (H'.out.below HB1.out) HM.out.flip).mono ?_
        rintro e w2 ⟨v, rfl, o, b⟩
        obtain ⟨A3, c3, rfl, r3, -⟩ := o.form' HFL.out
        have R3 := Lib.hid r3
        have HO3 : Hid (Own w2 w1.heap.size (.slice A3 n c3) (mulL f t)) := o
        have HI3 := Lib.hid o.iv
        have hx := HX1.out.below b
        clear c0 c1
        have c0 := hx.cell0
        have c1 := hx.cell1
        have HB2 := Lib.hid (HB1.out.trans (b.mono HB1.out.size)); have HX2 := Lib.hid hx; clear b hx o r3
        go_wp2_with fail
        refine (count_any w2 A3 c3 n (mulL f t) R3.out HMU.out).mono ?_
        rintro e w3 ⟨rfl, b⟩
        rw [HF.out]
        have hx := HX2.out.below b
        clear c0 c1
        have c0 := hx.cell0
        have c1 := hx.cell1
        have HO4 := Lib.hid (HO3.out.below b)
        have HZ3 := Lib.hid b.size
        have HB3 := Lib.hid (HB2.out.trans (b.mono HB2.out.size)); have HX3 := Lib.hid hx; clear b hx
        have hn1 : 1 ≤ n := by omega
        go_wp2_with (at_make; refine wpList_make_full _ rfl _ _ 70 rfl w3.heap.size 3 i0 (.int .i64 0) 1 Try.underlying70 hinf hz0 hz1 .i64 .i64 _ _ n rfl rfl rfl rfl (by rw [hz2]; omega) (by unfold maxLen; omega) (Nat.le_refl _) ?_; intro w4 hown1 hgrow1; have hb1 := below_of_grown hgrow1 (Nat.le_refl _) (fun k hk => by cases hk); have ho1 := Lib.hid (Own.made hown1); have hx := HX3.out.below hb1; clear c0 c1; have c0 := hx.cell0; have c1 := hx.cell1; have HB4 := Lib.hid (HB3.out.trans (hb1.mono HB3.out.size)); have HX4 := Lib.hid hx; have HO5 := Lib.hid (HO4.out.below hb1); clear hown1 hgrow1 hz0 hz1 hz2 hinf hx hb1)
        have hs2 := HB2.out.size
        have hs3 := HZ3.out
        have hlt2 := HX3.out.lt
        have HNE : Hid ((Value.slice A3 n c3).ownBlock = none ∨ (Value.slice A3 n c3).ownBlock ≠ some w3.heap.size) := ne_of (m := w3.heap.size) (v' := .slice (some ⟨w3.heap.size, 0, none⟩) n n) (fun k hk => by have := (HI3.out k hk).2; omega) (fun k hk => by simp [Value.ownBlock] at hk; omega)
        go_loopw [8, 35] (fun dv iv wr => ∃ (k : Nat) (zs : List Int), k ≤ n ∧ iv = .int .i64 k ∧ dv = .int .i64 (it (mulL f t) k d : Nat) ∧ Hid (Own wr w3.heap.size (.slice (some ⟨w3.heap.size, 0, none⟩) n n) zs) ∧ Hid (zs.length = n) ∧ Hid (Own wr w1.heap.size (.slice A3 n c3) (mulL f t)) ∧ Hid (Box wr w.heap.size 36 (.slice A n c) (.slice A' n c')) ∧ Hid (Below w.heap.size w wr) ∧ Hid (∀ j, j < k → gi zs (it (mulL f t) j d) = j)) (fun _ iv _ => n - (intOf iv).toNat)
        case atStart => exact ⟨0, _, Nat.zero_le _, rfl, rfl, ho1, by simp [Hid], HO5, HX4, HB4, fun j hj => absurd hj (by omega)⟩
        case round =>
          clear c0 c1
          obtain ⟨k, zs, hk, rfl, rfl, ho, hzl, hf3, hbx, hbb, hall⟩ := hrel
          by_cases hlt : k < n
          · obtain ⟨y, hy⟩ : ∃ y, it (mulL f t) k d = y := ⟨_, rfl⟩
            have hyn : y < n := by rw [← hy]; have := HPR.out.lt k (by rw [HFL.out]; exact hlt); rw [HFL.out] at this; exact this
            rw [hy]
            obtain ⟨g, hg, _, hc3, hfr3⟩ := ho.out.cellAt hzl.out hyn
            simp only [Option.some.injEq, Addr.mk.injEq, and_true] at hg
            subst hg
            have HS := Lib.hid (ho.out.stored hzl.out y k)
            have hf4 := hf3.out.grown HS.out.2 HNE.out
            obtain ⟨ad, rfl, hc4⟩ := (hf4.rd HFL.out).at_ hyn
            have hgy : gi (mulL f t) y = (it (mulL f t) (k + 1) d : Nat) := by
              rw [HMU.out.gi_gn (by rw [HFL.out]; exact hyn), it, hy]
            rw [hgy] at hc4
            have HF4 := Lib.hid hf4
            have HBX : Hid (Box (wr.setCell ⟨w3.heap.size, y, none⟩ (.int .i64 k)) w.heap.size 36 (.slice A n c) (.slice A' n c')) := by
              have := HS.out.2.block w.heap.size hbx.out.lt (by simp; omega)
              exact this.trans hbx.out
            have HBB := Lib.hid (hbb.out.grown HS.out.2 hbb.out.size (fun k hk => by cases hk; omega))
            have HY := Lib.hid hy
            clear hf4 hgy hy
            go_wp2_with fail
            go_roundw
            case rel =>
              refine ⟨k + 1, _, by omega, by go_num, rfl, HS.out.1, by simpa [Hid] using hzl.out, HF4, HBX, HBB, fun j hj => ?_⟩
              rw [gi_set _ _ _ _ (by rw [hzl.out]; exact hyn)]
              by_cases e : j = k
              · rw [if_pos (by rw [e, HY.out]), e]
              · rw [if_neg (fun e' => e (HPR.out.inj j k (by rw [HFL.out]; omega) (by rw [HFL.out]; exact hlt) (e'.trans HY.out.symm)))]; exact hall.out j (by omega)
            case measure => simp [intOf]; omega
          · obtain rfl : k = n := by omega
            have ez : zs = sideL (mulL f t) d := side_eq HPR.out (by rw [hzl.out, HFL.out]) (fun i hi => by rw [HFL.out] at hi; exact hall.out i hi)
            subst ez
            have HSV := Lib.hid (sideL_vld HMU.out HPR.out)
            have c0 := hbx.out.cell0
            have c1 := hbx.out.cell1
            go_wp2_with fail
            refine (conj_any A' (some ⟨w3.heap.size, 0, none⟩) k c' k f (sideL (mulL f t) d) wr (H'.out.below hbb.out) (ho.out.rd hzl.out) (by omega) HM.out.flip HSV.out).mono ?_
            rintro e w5 ⟨v, rfl, o, b⟩
            have HO6 := Lib.hid (o.mono hbb.out.size); have HB5 := Lib.hid (hbb.out.trans (b.mono hbb.out.size)); clear o b
            go_wp2_with fail
            go_ret2
            exact ⟨_, rfl, HO6.out, HB5.out⟩
    · have hd' : dartB n x = false := by simpa using hd
      obtain ⟨rfl, rfl⟩ := gofR_no HR.out (by rw [Bool.eq_false_iff]; intro e; exact hd (by have := (isOf_iff.1 e).2.1; rw [H.out.1] at this; exact dartB_iff.2 this))
      have HD := Lib.hid hd'; clear hd hd'
      go_enter Try.func33, Try.ntmps33
      go_wp2_with fail
      refine (valid_lit w.heap.size A A' n n c c' t f W0 HX.out (H.out.below HB.out) (H'.out.below HB.out) (by omega) (by omega) HV.out).mono ?_
      rintro e w1 ⟨rfl, b⟩
      have hx := HX.out.below b
      clear c0 c1
      have c0 := hx.cell0
      have c1 := hx.cell1
      have HB1 := Lib.hid (HB.out.trans (b.mono HB.out.size)); have HX1 := Lib.hid hx; clear b hx
      go_wp2_with fail
      refine (hasDart_lit w1 w.heap.size A A' n n c c' HX1.out x HD.out).mono ?_
      rintro e w2 ⟨rfl, rfl⟩
      go_wp2_with fail
      go_ret2
      exact ⟨_, rfl, Own.nil_ _ _, HB1.out⟩
  · have hv' : mapV t f = false := by simpa using hv
    obtain ⟨rfl, rfl⟩ := gofR_no HR.out (by rw [Bool.eq_false_iff]; intro e; exact hv (mapV_iff.2 (isOf_iff.1 e).1))
    have HNV := Lib.hid hv'; clear hv hv'
    go_enter Try.func33, Try.ntmps33
    go_wp2_with fail
    refine (valid_lit w.heap.size A A' n n' c c' t f W0 HX.out (H.out.below HB.out) (H'.out.below HB.out) (by omega) (by omega) HNV.out).mono ?_
    rintro e w1 ⟨rfl, b⟩
    have hx := HX.out.below b
    clear c0 c1
    have c0 := hx.cell0
    have c1 := hx.cell1
    have HB1 := Lib.hid (HB.out.trans (b.mono HB.out.size)); have HX1 := Lib.hid hx; clear b hx
    go_wp2_with fail
    go_ret2
    exact ⟨_, rfl, Own.nil_ _ _, HB1.out⟩

end Go.Proofs.Ytfcgfeopmnjfjaa
