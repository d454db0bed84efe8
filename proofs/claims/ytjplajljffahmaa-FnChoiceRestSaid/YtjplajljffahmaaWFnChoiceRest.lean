/-
  FnChoiceRest: the walk of the law.
-/
import Derived.Test.YtjplajljffahmaaLawMap
import Derived.Test.YtjplajljffahmaaDrawCho
import Derived.Test.YtjplajljffahmaaRestQ
import Derived.Test.YtjplajljffahmaaDual
namespace Go.Proofs.Ytjplajljffahmaa
open Go.RowKit

set_option maxRecDepth 100000 in
set_option maxHeartbeats 6400000 in
theorem walk_FnChoiceRest (A0 : Option Addr) (n0 c0 : Nat) (bs0 : List Int) (w : World) (h0 : RdB w A0 n0 bs0) (hm0 : n0 ≤ maxLen ∧ n0 ≤ c0) :
    Calls Try.prog 3 #[.slice A0 n0 c0] w fun e w' => e = .returned (.bool true) ∧ Below w.heap.size w w' := by
  have HB0_0 := Lib.hid h0; have hc0 := hm0.2; have hml0 := hm0.1; clear h0 hm0; unfold maxLen at hml0
  by_cases hbig0 : 1048576 < n0
  · have hd : decide ((1048576 : Int) < n0) = true := by simp; omega
    go_enter Try.func3, Try.ntmps3
    go_wp2
    go_ret
    exact ⟨rfl, Below.refl _ _⟩
  have hd0 : decide ((1048576 : Int) < n0) = false := by simp; omega
  have hnb0 : n0 ≤ 1048576 := by omega
  clear hbig0
  go_enter Try.func3, Try.ntmps3
  go_wp2_with fail
  refine (drawChoiceRest_any w A0 n0 c0 bs0 HB0_0.out hnb0 hc0).mono ?_
  rintro e w1 ⟨Am, Am', nm, nm', cm, cm', t, f, v, xs, rfl, r1, r2, hlm, hlm', o, hlz, b⟩
  obtain ⟨nz, hn⟩ : ∃ n, xs.length = n := ⟨_, rfl⟩
  rw [hn] at hlz
  obtain ⟨Az, cz, rfl, -, -⟩ := o.form' hn
  have HRz := Lib.hid (o.rd hn); have HNz := Lib.hid hn; clear o hn
  have HNm := Lib.hid r1.1; have HNm' := Lib.hid r2.1; have HRm := Lib.hid r1; have HRm' := Lib.hid r2; clear r1 r2
  have HB := Lib.hid b; have hs := b.size; clear b
  obtain ⟨w2, hWw2, hx, b, hz⟩ := Box.local_ w1 25 (.slice Am nm cm) (.slice Am' nm' cm')
  have BXm := Lib.hid hx; clear hx hz
  replace HRm := Lib.hid (HRm.out.below b)
  replace HRm' := Lib.hid (HRm'.out.below b)
  replace HRz := Lib.hid (HRz.out.below b)
  replace HB := Lib.hid (HB.out.trans (b.mono hs)); replace hs := HB.out.size
  clear b
  have cm_0 := BXm.out.cell0; have cm_1 := BXm.out.cell1
  by_cases hv : chV t f xs = true
  · obtain ⟨s, r, hm, r1, r2, r3, r4, hsd, hxs, hs64, hr64, hlen⟩ := rest_facts hv
    have HM := Lib.hid hm
    obtain rfl : nm = nm' := by have := hm.len; rw [HNm.out, HNm'.out] at this; exact this
    obtain ⟨ys, hys⟩ : ∃ ys, bL r = ys := ⟨_, rfl⟩
    rw [hys] at r1 r2 r4 hlen
    obtain ⟨k, hk⟩ : ∃ k, ys.length = k := ⟨_, rfl⟩
    have HYL := Lib.hid hk
    have hk12 : k ≤ 12 := by rw [hk, HNm'.out] at hlen; omega
    obtain ⟨S, hS⟩ : ∃ S, sidN t f s = S := ⟨_, rfl⟩
    rw [hS] at hsd
    obtain ⟨a0, a2, a3, a4, hA⟩ : ∃ a0 a2 a3 a4 : Int, subL t f s = [a0, (S : Int), a2, a3, a4] := ⟨_, _, _, _, by rw [subL, subI, hS]⟩
    obtain ⟨b0, b2, b3, b4, hB⟩ : ∃ b0 b2 b3 b4 : Int, subL (mulL f t) f r = [b0, (S : Int), b2, b3, b4] := ⟨_, _, _, _, by rw [subL, subI, hsd]⟩
    rw [hA] at r3
    rw [hB] at r4
    have R1 := Lib.hid r1; have R2 := Lib.hid r2; have C1 := Lib.hid r3; have C2 := Lib.hid r4
    have hSS : ((S : Int) == (S : Int)) = true := by simp
    clear r1 r2 r3 r4 hsd hxs hlen hys hA hB hS hv hm hk
    go_wp2_with fail
    refine (impl_chRestR w2 Am Am' nm nm cm cm' t f HRm.out HRm'.out (by omega) (by omega) Az cz nz xs HRz.out (by omega) (ok := true) (ys := ys) (R1.out)).mono ?_
    rintro e w3 ⟨v, rfl, o, b⟩
    have hl : (ys : List Int).length = k := HYL.out
    obtain ⟨Ao, co, rfl, -, -⟩ := o.form' hl
    have HRo := Lib.hid (o.rd hl); clear o hl
    replace HRm := Lib.hid (HRm.out.below b)
    replace HRm' := Lib.hid (HRm'.out.below b)
    replace HRz := Lib.hid (HRz.out.below b)
    replace BXm := Lib.hid (BXm.out.below b); replace cm_0 := BXm.out.cell0; replace cm_1 := BXm.out.cell1
    replace HB := Lib.hid (HB.out.trans (b.mono hs)); replace hs := HB.out.size
    clear b
    go_wp2_with fail
    refine (spec_chRestR w3 Am Am' nm nm cm cm' t f HRm.out HRm'.out (by omega) (by omega) Az cz nz xs HRz.out (by omega) (ok := true) (ys := ys) (R1.out)).mono ?_
    rintro e w4 ⟨v, rfl, o, b⟩
    have hl : (ys : List Int).length = k := HYL.out
    obtain ⟨Au, cu, rfl, -, -⟩ := o.form' hl
    have HRu := Lib.hid (o.rd hl); clear o hl
    replace HRm := Lib.hid (HRm.out.below b)
    replace HRm' := Lib.hid (HRm'.out.below b)
    replace HRz := Lib.hid (HRz.out.below b)
    replace HRo := Lib.hid (HRo.out.below b)
    replace BXm := Lib.hid (BXm.out.below b); replace cm_0 := BXm.out.cell0; replace cm_1 := BXm.out.cell1
    replace HB := Lib.hid (HB.out.trans (b.mono hs)); replace hs := HB.out.size
    clear b
    go_wp2_with fail
    refine (same_yes w4 Ao Au k k co cu ys ys HRo.out HRu.out (by omega) (by omega) (rfl)).mono ?_
    rintro e w5 ⟨rfl, b⟩
    replace HRm := Lib.hid (HRm.out.below b)
    replace HRm' := Lib.hid (HRm'.out.below b)
    replace HRz := Lib.hid (HRz.out.below b)
    replace HRo := Lib.hid (HRo.out.below b)
    replace HRu := Lib.hid (HRu.out.below b)
    replace BXm := Lib.hid (BXm.out.below b); replace cm_0 := BXm.out.cell0; replace cm_1 := BXm.out.cell1
    replace HB := Lib.hid (HB.out.trans (b.mono hs)); replace hs := HB.out.size
    clear b
    clear HRu
    go_wp2_with fail
    refine (impl_chRestR w5 Am Am' nm nm cm cm' t f HRm.out HRm'.out (by omega) (by omega) Ao co k ys HRo.out (by omega) (ok := true) (ys := xs) (R2.out)).mono ?_
    rintro e w6 ⟨v, rfl, o, b⟩
    have hl : (xs : List Int).length = nz := HNz.out
    obtain ⟨Ax, cx, rfl, -, -⟩ := o.form' hl
    have HRx := Lib.hid (o.rd hl); clear o hl
    replace HRm := Lib.hid (HRm.out.below b)
    replace HRm' := Lib.hid (HRm'.out.below b)
    replace HRz := Lib.hid (HRz.out.below b)
    replace HRo := Lib.hid (HRo.out.below b)
    replace BXm := Lib.hid (BXm.out.below b); replace cm_0 := BXm.out.cell0; replace cm_1 := BXm.out.cell1
    replace HB := Lib.hid (HB.out.trans (b.mono hs)); replace hs := HB.out.size
    clear b
    go_wp2_with fail
    refine (impl_dualR w6 Am Am' nm nm cm cm' t f HRm.out HRm'.out (by omega) (by omega) (ok := true) (yt := mulL f t) (yf := f) (by rw [dualR, if_pos (mapV_iff.2 HM.out)])).mono ?_
    rintro e w7 ⟨u, u', rfl, o, b⟩
    have hl : (mulL f t : List Int).length = nm := (mulL_len _ _).trans HNm'.out
    have hl' : (f : List Int).length = nm := HNm'.out
    obtain ⟨Ad, cd, Ad', cd', rfl, rfl, r1, r2⟩ := o.form hl hl'
    have HRd := Lib.hid r1; have HRd' := Lib.hid r2; clear o hl hl' r1 r2
    replace HRm := Lib.hid (HRm.out.below b)
    replace HRm' := Lib.hid (HRm'.out.below b)
    replace HRz := Lib.hid (HRz.out.below b)
    replace HRo := Lib.hid (HRo.out.below b)
    replace HRx := Lib.hid (HRx.out.below b)
    replace BXm := Lib.hid (BXm.out.below b); replace cm_0 := BXm.out.cell0; replace cm_1 := BXm.out.cell1
    replace HB := Lib.hid (HB.out.trans (b.mono hs)); replace hs := HB.out.size
    clear b
    obtain ⟨w8, hWw8, hx, b, hz⟩ := Box.local_ w7 25 (.slice Ad nm cd) (.slice Ad' nm cd')
    have BXd := Lib.hid hx; clear hx hz
    replace HRm := Lib.hid (HRm.out.below b)
    replace HRm' := Lib.hid (HRm'.out.below b)
    replace HRz := Lib.hid (HRz.out.below b)
    replace HRo := Lib.hid (HRo.out.below b)
    replace HRx := Lib.hid (HRx.out.below b)
    replace HRd := Lib.hid (HRd.out.below b)
    replace HRd' := Lib.hid (HRd'.out.below b)
    replace BXm := Lib.hid (BXm.out.below b); replace cm_0 := BXm.out.cell0; replace cm_1 := BXm.out.cell1
    replace HB := Lib.hid (HB.out.trans (b.mono hs)); replace hs := HB.out.size
    clear b
    have cd_0 := BXd.out.cell0; have cd_1 := BXd.out.cell1
    go_wp2_with fail
    refine (impl_ccR w8 Am Am' nm nm cm cm' t f HRm.out HRm'.out (by omega) (by omega) Az cz nz xs HRz.out (by omega) (ok := true) (ys := [a0, (S : Int), a2, a3, a4]) (C1.out)).mono ?_
    rintro e w9 ⟨v, rfl, o, b⟩
    have hl : ([a0, (S : Int), a2, a3, a4] : List Int).length = 5 := rfl
    obtain ⟨Aa, ca, rfl, -, -⟩ := o.form' hl
    obtain ⟨ga, rfl, -, -, -⟩ := o.cellAt hl (k := 0) (by omega)
    have HRa := Lib.hid (o.rd hl); clear o hl
    replace HRm := Lib.hid (HRm.out.below b)
    replace HRm' := Lib.hid (HRm'.out.below b)
    replace HRz := Lib.hid (HRz.out.below b)
    replace HRo := Lib.hid (HRo.out.below b)
    replace HRx := Lib.hid (HRx.out.below b)
    replace HRd := Lib.hid (HRd.out.below b)
    replace HRd' := Lib.hid (HRd'.out.below b)
    replace BXm := Lib.hid (BXm.out.below b); replace cm_0 := BXm.out.cell0; replace cm_1 := BXm.out.cell1
    replace BXd := Lib.hid (BXd.out.below b); replace cd_0 := BXd.out.cell0; replace cd_1 := BXd.out.cell1
    replace HB := Lib.hid (HB.out.trans (b.mono hs)); replace hs := HB.out.size
    clear b
    go_wp2_with fail
    refine (impl_ccR w9 Ad Ad' nm nm cd cd' (mulL f t) f HRd.out HRd'.out (by omega) (by omega) Ao co k ys HRo.out (by omega) (ok := true) (ys := [b0, (S : Int), b2, b3, b4]) (C2.out)).mono ?_
    rintro e w10 ⟨v, rfl, o, b⟩
    have hl : ([b0, (S : Int), b2, b3, b4] : List Int).length = 5 := rfl
    obtain ⟨Ab, cb, rfl, -, -⟩ := o.form' hl
    obtain ⟨gb, rfl, -, -, -⟩ := o.cellAt hl (k := 0) (by omega)
    have HRb := Lib.hid (o.rd hl); clear o hl
    replace HRm := Lib.hid (HRm.out.below b)
    replace HRm' := Lib.hid (HRm'.out.below b)
    replace HRz := Lib.hid (HRz.out.below b)
    replace HRo := Lib.hid (HRo.out.below b)
    replace HRx := Lib.hid (HRx.out.below b)
    replace HRd := Lib.hid (HRd.out.below b)
    replace HRd' := Lib.hid (HRd'.out.below b)
    replace HRa := Lib.hid (HRa.out.below b)
    replace BXm := Lib.hid (BXm.out.below b); replace cm_0 := BXm.out.cell0; replace cm_1 := BXm.out.cell1
    replace BXd := Lib.hid (BXd.out.below b); replace cd_0 := BXd.out.cell0; replace cd_1 := BXd.out.cell1
    replace HB := Lib.hid (HB.out.trans (b.mono hs)); replace hs := HB.out.size
    clear b
    have qa1 : w10.cell? ⟨ga, 1, none⟩ = some (.int .i64 (S : Int)) := HRa.out.getg (j := 1) (by omega)
    have qb1 : w10.cell? ⟨gb, 1, none⟩ = some (.int .i64 (S : Int)) := HRb.out.getg (j := 1) (by omega)
    go_wp2_with fail
    go_region_held3 (fun w' => w'.cell? ⟨ga, 1, none⟩ = some (.int .i64 (S : Int)) ∧ w'.cell? ⟨gb, 1, none⟩ = some (.int .i64 (S : Int))) (first | go_keep | exact ⟨(HRa.out.below BS0.out).getg (j := 1) (by omega), (HRb.out.below BS0.out).getg (j := 1) (by omega)⟩) (first
      | (go_at_call 10; refine (same_yes _ Ax Az nz nz cx cz xs xs (HRx.out.drewN _) (HRz.out.drewN _) (by omega) (by omega) (rfl)).mono ?_; rintro e w11 ⟨rfl, b⟩; have BS0 : Hid (Below w10.heap.size w10 w11) := Below.of_drewN b; clear b))
    all_goals
      go_wp2
      go_ret
      exact ⟨rfl, HB.out.trans (BS0.out.mono hs)⟩
  · have HV : Hid (chRestR t f xs = (false, [])) := by
      have hv' : chV t f xs = false := by simpa using hv
      rw [Hid, chRestR, chRestR', hv', if_neg (by decide)]
    go_wp2_with fail
    refine (impl_chRestR w2 Am Am' nm nm' cm cm' t f HRm.out HRm'.out (by omega) (by omega) Az cz nz xs HRz.out (by omega) (ok := false) (ys := []) (HV.out)).mono ?_
    rintro e w3 ⟨v, rfl, o, b⟩
    have hl : ([] : List Int).length = 0 := rfl
    obtain ⟨Ao, co, rfl, -, -⟩ := o.form' hl
    have HRo := Lib.hid (o.rd hl); clear o hl
    replace HRm := Lib.hid (HRm.out.below b)
    replace HRm' := Lib.hid (HRm'.out.below b)
    replace HRz := Lib.hid (HRz.out.below b)
    replace BXm := Lib.hid (BXm.out.below b); replace cm_0 := BXm.out.cell0; replace cm_1 := BXm.out.cell1
    replace HB := Lib.hid (HB.out.trans (b.mono hs)); replace hs := HB.out.size
    clear b
    go_wp2_with fail
    refine (spec_chRestR w3 Am Am' nm nm' cm cm' t f HRm.out HRm'.out (by omega) (by omega) Az cz nz xs HRz.out (by omega) (ok := false) (ys := []) (HV.out)).mono ?_
    rintro e w4 ⟨v, rfl, o, b⟩
    have hl : ([] : List Int).length = 0 := rfl
    obtain ⟨Au, cu, rfl, -, -⟩ := o.form' hl
    have HRu := Lib.hid (o.rd hl); clear o hl
    replace HRm := Lib.hid (HRm.out.below b)
    replace HRm' := Lib.hid (HRm'.out.below b)
    replace HRz := Lib.hid (HRz.out.below b)
    replace HRo := Lib.hid (HRo.out.below b)
    replace BXm := Lib.hid (BXm.out.below b); replace cm_0 := BXm.out.cell0; replace cm_1 := BXm.out.cell1
    replace HB := Lib.hid (HB.out.trans (b.mono hs)); replace hs := HB.out.size
    clear b
    go_wp2_with fail
    refine (same_yes w4 Ao Au 0 0 co cu [] [] HRo.out HRu.out (by omega) (by omega) (rfl)).mono ?_
    rintro e w5 ⟨rfl, b⟩
    replace HRm := Lib.hid (HRm.out.below b)
    replace HRm' := Lib.hid (HRm'.out.below b)
    replace HRz := Lib.hid (HRz.out.below b)
    replace HRo := Lib.hid (HRo.out.below b)
    replace HRu := Lib.hid (HRu.out.below b)
    replace BXm := Lib.hid (BXm.out.below b); replace cm_0 := BXm.out.cell0; replace cm_1 := BXm.out.cell1
    replace HB := Lib.hid (HB.out.trans (b.mono hs)); replace hs := HB.out.size
    clear b
    go_wp2_with fail
    refine (same_yes w5 Ao Au 0 0 co cu [] [] HRo.out HRu.out (by omega) (by omega) (rfl)).mono ?_
    rintro e w6 ⟨rfl, b⟩
    replace HRm := Lib.hid (HRm.out.below b)
    replace HRm' := Lib.hid (HRm'.out.below b)
    replace HRz := Lib.hid (HRz.out.below b)
    replace HRo := Lib.hid (HRo.out.below b)
    replace HRu := Lib.hid (HRu.out.below b)
    replace BXm := Lib.hid (BXm.out.below b); replace cm_0 := BXm.out.cell0; replace cm_1 := BXm.out.cell1
    replace HB := Lib.hid (HB.out.trans (b.mono hs)); replace hs := HB.out.size
    clear b
    go_wp2_with fail
    go_ret
    exact ⟨rfl, HB.out⟩

end Go.Proofs.Ytjplajljffahmaa
