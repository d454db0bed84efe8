/-
  PermConj, the model's and the program's.
-/
import Derived.Test.YtakckkmhhedfpaaBack
namespace Go.Proofs.Ytakckkmhhedfpaa
open Go.RowKit

set_option maxHeartbeats 800000 in
theorem conj_any (A A' : Option Addr) (n c c' : Nat) (xs ys : List Int) (w : World) (h : Rd w A n xs) (h' : Rd w A' n ys) (hn : n ≤ 1048576) (hv : Vld xs) (hv' : Vld ys) :
    Calls Try.prog 114 #[.slice A n c, .slice A' n c'] w fun e w' => ∃ v, e = .returned v ∧ Own w' w.heap.size v (conjL xs ys) ∧ Below w.heap.size w w' := by
  obtain ⟨i0, hinf, hz0, hz1, hz2⟩ := info_parts info_int
  have H := Lib.hid h; have H' := Lib.hid h'; have HV := Lib.hid hv'; have HI := Lib.hid (hv.into (m := n) h.1); have HI' := Lib.hid (hv'.into (m := n) h'.1)
  have Hx := Lib.hid h.1; have Hy := Lib.hid h'.1; clear h h' hv hv'
  go_enter Try.func114, Try.ntmps114
  go_wp2_with (at_make; refine wpList_make_full _ rfl _ _ 72 rfl w.heap.size 3 i0 (.int .i64 0) 1 Try.underlying72 hinf hz0 hz1 .i64 .i64 _ _ n rfl rfl rfl rfl (by rw [hz2]; omega) (by unfold maxLen; omega) (Nat.le_refl _) ?_; intro w1 hown1 hgrow1)
  have hb1 := Lib.hid (below_of_grown hgrow1 (Nat.le_refl _) (fun k hk => by cases hk))
  have ho1 := Lib.hid (Own.made hown1)
  clear hown1 hgrow1 hz0 hz1 hz2 hinf
  go_loopw [13] (fun i wr => ∃ (k : Nat) (zs : List Int), k ≤ n ∧ i = .int .i64 k ∧ Hid (Own wr w.heap.size (.slice (some ⟨w.heap.size, 0, none⟩) n n) zs) ∧ Hid (zs.length = n) ∧ Hid (Below w.heap.size w wr) ∧ Hid (∀ j, j < k → gi zs (gn ys j) = gi ys (gn xs j))) (fun i _ => n - (intOf i).toNat)
  case atStart => exact ⟨0, _, Nat.zero_le _, rfl, ho1, by simp [Hid], hb1, fun j hj => absurd hj (by omega)⟩
  case round =>
    obtain ⟨k, zs, hk, rfl, ho, hzl, hb, hall⟩ := hrel
    by_cases hlt : k < n
    · obtain ⟨ad, rfl, hc⟩ := (H.out.below hb.out).at_ hlt
      obtain ⟨x, hx, hxm, hgn⟩ := HI.out.nat (j := k) (by rw [Hx.out]; exact hlt)
      rw [hx] at hc
      have HX := Lib.hid hx; have HG := Lib.hid hgn; clear hx hgn
      obtain ⟨ad', rfl, hc'⟩ := (H'.out.below hb.out).at_ hlt
      obtain ⟨y, hy, hym, hgy⟩ := HI'.out.nat (j := k) (by rw [Hy.out]; exact hlt)
      rw [hy] at hc'
      have HY := Lib.hid hy; have HGY := Lib.hid hgy; clear hy hgy
      obtain ⟨ad'', hA, hc''⟩ := (H'.out.below hb.out).at_ hxm
      simp only [Option.some.injEq] at hA
      subst hA
      obtain ⟨g, hg, _, hc3, hf3⟩ := ho.out.cellAt hzl.out hym
      simp only [Option.some.injEq, Addr.mk.injEq, and_true] at hg
      subst hg
      have hx0 : (0 : Int) ≤ x := by omega
      have hxi : (x : Int) < n := by omega
      have hyi : (y : Int) < n := by omega
      have hki : (k : Int) < n := by omega
      have HS := Lib.hid (ho.out.stored hzl.out y (gi ys x))
      go_wp2
      go_region
      all_goals go_wp2
      all_goals go_roundw
      all_goals
        first
        | (refine ⟨k + 1, _, by omega, by go_num, HS.out.1.drewN _, by simpa [Hid] using hzl.out, below_drewN (hb.out.setCell (Nat.le_refl _) _) _, fun j hj => ?_⟩
           rw [gi_set _ _ _ _ (by rw [hzl.out]; exact hym)]
           by_cases e : j = k
           · rw [if_pos (by rw [e, HGY.out]), e, HG.out]
           · rw [if_neg (fun e' => e (HV.out.inj (by rw [Hy.out]; omega) (by rw [Hy.out]; exact hlt) (by rw [e', HGY.out])))]; exact hall.out j (by omega))
        | (simp [intOf]; omega)
    · go_wp2
      go_ret
      refine ⟨_, rfl, ?_, hb.out⟩
      have e : zs = conjL xs ys := conjL_eq HV.out (by rw [hzl.out, Hy.out]) (fun j hj => hall.out j (by rw [Hy.out] at hj; omega))
      rw [← e]; exact ho.out

theorem backL_into {p : List Int} {n : Nat} (h : Vld p) (hn : p.length = n) : Into (backL p) n := fun j hj => by
  rw [backL_len] at hj
  obtain ⟨i, hi, rfl⟩ := h.surj hj
  rw [h.gi_backL hi]
  exact ⟨Int.natCast_nonneg _, by omega⟩
theorem mulL_into {a b : List Int} {n : Nat} (h : Into a n) (hb : Into b n) (hbn : b.length = n) : Into (mulL a b) n := fun j hj => by
  rw [mulL_len] at hj
  rw [gi_mulL hj]
  obtain ⟨x, _, hx, hg⟩ := h.nat hj
  rw [hg]; exact hb x (by rw [hbn]; exact hx)

set_option maxHeartbeats 800000 in
theorem spec_conjR (w : World) (A0 : Option Addr) (c0 n0 : Nat) (xs0 : List Int) (h0 : Rd w A0 n0 xs0) (hn0 : n0 ≤ 1048576) (A1 : Option Addr) (c1 n1 : Nat) (xs1 : List Int) (h1 : Rd w A1 n1 xs1) (hn1 : n1 ≤ 1048576)
    {ok : Bool} {ys : List Int} (hR : conjR xs0 xs1 = (ok, ys)) :
    Calls Try.prog 117 #[.slice A0 n0 c0, .slice A1 n1 c1] w fun e w' => ∃ v, e = .returned (.tuple #[v, .bool ok]) ∧ Own w' w.heap.size v ys ∧ Below w.heap.size w w' := by
  have H0 := Lib.hid h0; have H1 := Lib.hid h1; have HR := Lib.hid hR; clear h0 h1 hR
  by_cases hb : both xs0 xs1 = true
  · have hb3 := both_iff.1 hb
    obtain ⟨rfl, rfl⟩ : ok = true ∧ ys = conjL xs0 xs1 := by have := HR.out; rw [conjR, if_pos hb] at this; simpa [eq_comm] using this
    clear HR
    have HV0 := Lib.hid hb3.1; have HV1 := Lib.hid hb3.2.1
    obtain rfl : n0 = n1 := by rw [← H0.out.1, ← H1.out.1]; exact hb3.2.2
    clear hb3
    have HI1 := Lib.hid (backL_into HV1.out H1.out.1)
    have HI2 := Lib.hid (mulL_into HI1.out (HV0.out.into H0.out.1) H0.out.1)
    have HL1 : Hid ((backL xs1).length = n0) := (backL_len _).trans H1.out.1
    have HL2 : Hid ((mulL (backL xs1) xs0).length = n0) := (mulL_len _ _).trans HL1.out
    go_enter Try.func117, Try.ntmps117
    go_wp2_with fail
    refine (l1Both_any A0 A1 _ _ c0 c1 xs0 xs1 w H0.out H1.out (by omega) (by omega)).mono ?_
    rintro e w1 ⟨rfl, b⟩
    have HB := Lib.hid b; have H01 := Lib.hid (H0.out.below b); have H11 := Lib.hid (H1.out.below b); clear b
    go_wp2_with fail
    refine (l1Back_any A1 _ c1 xs1 w1 H11.out hn1 HV1.out).mono ?_
    rintro e w2 ⟨v, rfl, o, b⟩
    have HB2 := Lib.hid (HB.out.trans (b.mono HB.out.size)); have H02 := Lib.hid (H01.out.below b); have H12 := Lib.hid (H11.out.below b); clear b
    obtain ⟨A2, c2, rfl, r2, -⟩ := o.form' HL1.out
    have R2 := Lib.hid r2; clear r2 o
    go_wp2_with fail
    refine (l1Mul_any A2 A0 _ _ c2 c0 (backL xs1) xs0 w2 R2.out H02.out hn1 hn1 HI1.out).mono ?_
    rintro e w3 ⟨v, rfl, o, b⟩
    have HB3 := Lib.hid (HB2.out.trans (b.mono HB2.out.size)); have H13 := Lib.hid (H12.out.below b); clear b
    obtain ⟨A3, c3, rfl, r3, -⟩ := o.form' HL2.out
    have R3 := Lib.hid r3; clear r3 o
    go_wp2_with fail
    refine (l1Mul_any A3 A1 _ _ c3 c1 (mulL (backL xs1) xs0) xs1 w3 R3.out H13.out hn1 hn1 HI2.out).mono ?_
    rintro e w4 ⟨v, rfl, o, b⟩
    have HO := Lib.hid (o.mono HB3.out.size); have HB4 := Lib.hid (HB3.out.trans (b.mono HB3.out.size)); clear o b
    go_wp2_with fail
    go_ret2
    exact ⟨v, rfl, HO.out, HB4.out⟩
  · have hb' : both xs0 xs1 = false := by simpa using hb
    obtain ⟨rfl, rfl⟩ : ok = false ∧ ys = [] := by have := HR.out; rw [conjR, if_neg hb] at this; simpa [eq_comm] using this
    clear HR hb
    go_enter Try.func117, Try.ntmps117
    go_wp2_with fail
    refine (l1Both_any A0 A1 n0 n1 c0 c1 xs0 xs1 w H0.out H1.out (by omega) (by omega)).mono ?_
    rintro e w1 ⟨rfl, b⟩
    have HB := Lib.hid b; clear b
    go_wp2_with fail
    go_ret2
    exact ⟨_, rfl, Own.empty HB.out.size, HB.out.alloc HB.out.size _⟩

end Go.Proofs.Ytakckkmhhedfpaa
