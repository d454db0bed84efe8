/-
  GluingChord, GluingPlanar, and the corners: the model's and the program's.
  GluingGenus, GluingTurn: the model's and the program's.
-/
import Derived.Test.YtfcgfeopmnjfjaaGluC
import Derived.Test.YtfcgfeopmnjfjaaCopy
import Derived.Test.YtfcgfeopmnjfjaaSign
import Derived.Test.YtfcgfeopmnjfjaaCounts
import Derived.Test.YtfcgfeopmnjfjaaConj
namespace Go.Proofs.Ytfcgfeopmnjfjaa
open Go.RowKit

theorem IsG.half {p : List Int} (h : IsG p) : Vld (folL p.length) := folL_vld _ (by have := h.2.1; omega) (by have := h.1; omega)
theorem corL_vld {p : List Int} (h : IsG p) : Vld (corL p) := h.vld.mulL h.half (by rw [folL_len])

set_option maxHeartbeats 800000 in
theorem impl_gchR (w : World) (A : Option Addr) (c n : Nat) (xs : List Int) (h : Rd w A n xs) (hn : n ≤ 1048576) {r : Int} (hR : gchR xs = r) :
    Calls Try.prog 50 #[.slice A n c] w fun e w' => e = .returned (.int .i64 r) ∧ Below w.heap.size w w' := by
  by_cases hg : glu xs = true
  · rw [gchR, if_pos hg] at hR
    have HG := Lib.hid hg; have HR := Lib.hid hR; have H := Lib.hid h; clear hg hR h
    go_enter Try.func50, Try.ntmps50
    go_wp2_with fail
    refine (impl_glu w A c n xs H.out hn HG.out).mono ?_
    rintro e w1 ⟨rfl, b⟩
    have HB := Lib.hid b; clear b
    go_wp2_with fail
    refine (cross_any w1 A c n xs (H.out.below HB.out) (glu_iff.1 HG.out)).mono ?_
    rintro e w2 ⟨rfl, b⟩
    have HB2 := Lib.hid (HB.out.trans (b.mono HB.out.size)); clear b
    go_wp2_with fail
    go_ret
    exact ⟨ret_int HR.out, HB2.out⟩
  · rw [gchR, if_neg hg] at hR
    have hg' : glu xs = false := by simpa using hg
    have HG := Lib.hid hg'; have HR := Lib.hid hR; have H := Lib.hid h; clear hg hg' hR h
    go_enter Try.func50, Try.ntmps50
    go_wp2_with fail
    refine (impl_glu w A c n xs H.out hn HG.out).mono ?_
    rintro e w1 ⟨rfl, b⟩
    have HB := Lib.hid b; clear b
    go_wp2_with fail
    go_ret
    exact ⟨ret_int HR.out, HB.out⟩

set_option maxHeartbeats 800000 in
theorem impl_gplR (w : World) (A : Option Addr) (c n : Nat) (xs : List Int) (h : Rd w A n xs) (hn : n ≤ 1048576) {r : Bool} (hR : gplR xs = r) :
    Calls Try.prog 49 #[.slice A n c] w fun e w' => e = .returned (.bool r) ∧ Below w.heap.size w w' := by
  by_cases hg : glu xs = true
  · obtain ⟨q, hq⟩ : ∃ q, chord xs = q := ⟨_, rfl⟩
    have HR : Hid (((q : Int) == 0) = r) := by
      rw [Hid, ← hR, gplR, hg, hq, Bool.true_and]
      by_cases hz : q = 0
      · simp [hz]
      · simp [hz]
    have HQ := Lib.hid hq; have H := Lib.hid h; have HG := Lib.hid hg; clear hR hq h hg
    go_enter Try.func49, Try.ntmps49
    go_wp2_with fail
    refine (impl_glu w A c n xs H.out hn HG.out).mono ?_
    rintro e w1 ⟨rfl, b⟩
    have HB := Lib.hid b; clear b
    go_wp2_with fail
    refine (cross_any w1 A c n xs (H.out.below HB.out) (glu_iff.1 HG.out)).mono ?_
    rintro e w2 ⟨rfl, b⟩
    rw [HQ.out]
    have HB2 := Lib.hid (HB.out.trans (b.mono HB.out.size)); clear b
    go_wp2_with fail
    go_ret
    exact ⟨ret_bool HR.out, HB2.out⟩
  · have hg' : glu xs = false := by simpa using hg
    have HR : Hid (false = r) := by rw [Hid, ← hR, gplR, hg']; rfl
    have HG := Lib.hid hg'; have H := Lib.hid h; clear hg hg' hR h
    go_enter Try.func49, Try.ntmps49
    go_wp2_with fail
    refine (impl_glu w A c n xs H.out hn HG.out).mono ?_
    rintro e w1 ⟨rfl, b⟩
    have HB := Lib.hid b; clear b
    go_wp2_with fail
    go_ret
    exact ⟨ret_bool HR.out, HB.out⟩

set_option maxHeartbeats 800000 in
theorem following_any (w : World) (n : Nat) (h1 : 1 ≤ n) (hn : n ≤ 12) :
    Calls Try.prog 92 #[.int .i64 n] w fun e w' => ∃ v, e = .returned v ∧ Own w' w.heap.size v (folL n) ∧ Below w.heap.size w w' := by
  obtain ⟨i0, hinf, hz0, hz1, hz2⟩ := info_parts info_int
  go_enter Try.func92, Try.ntmps92
  go_wp2_with (at_make; refine wpList_make_full _ rfl _ _ 70 rfl w.heap.size 3 i0 (.int .i64 0) 1 Try.underlying70 hinf hz0 hz1 .i64 .i64 _ _ n rfl rfl rfl rfl (by rw [hz2]; omega) (by unfold maxLen; omega) (Nat.le_refl _) ?_; intro w1 hown1 hgrow1)
  have hb1 := Lib.hid (below_of_grown hgrow1 (Nat.le_refl _) (fun k hk => by cases hk))
  have ho1 := Lib.hid (Own.made hown1)
  clear hown1 hgrow1 hz0 hz1 hz2 hinf
  go_loopw [9] (fun i wr => ∃ (k : Nat) (zs : List Int), k ≤ n ∧ i = .int .i64 k ∧ Hid (Own wr w.heap.size (.slice (some ⟨w.heap.size, 0, none⟩) n n) zs) ∧ Hid (zs.length = n) ∧ Hid (Below w.heap.size w wr) ∧ Hid (∀ j, j < k → gi zs j = ((j + 1) % n : Nat))) (fun i _ => n - (intOf i).toNat)
  case atStart => exact ⟨0, _, Nat.zero_le _, rfl, ho1, by simp [Hid], hb1, fun j hj => absurd hj (by omega)⟩
  case round =>
    obtain ⟨k, zs, hk, rfl, ho, hzl, hb, hall⟩ := hrel
    by_cases hlt : k < n
    · obtain ⟨g, hg, _, hc3, hf3⟩ := ho.out.cellAt hzl.out hlt
      simp only [Option.some.injEq, Addr.mk.injEq, and_true] at hg
      subst hg
      have HS := Lib.hid (ho.out.stored hzl.out k (((k : Int) + 1) % (n : Int)))
      have hm1 : ¬ ((n : Int) = 0) := by omega
      go_wp2
      go_roundw
      case rel =>
        refine ⟨k + 1, _, by omega, by go_num, HS.out.1, by simpa [Hid] using hzl.out, hb.out.setCell (Nat.le_refl _) _, fun j hj => ?_⟩
        rw [gi_set _ _ _ _ (by rw [hzl.out]; exact hlt)]
        by_cases e : j = k
        · rw [if_pos e, e, Int.natCast_emod, Int.natCast_add]; rfl
        · rw [if_neg e]; exact hall.out j (by omega)
      case measure => simp [intOf]; omega
    · go_wp2
      go_ret
      refine ⟨_, rfl, ?_, hb.out⟩
      have e : zs = folL n := tab_ext hzl.out (fun j hj => hall.out j (by omega))
      rw [← e]; exact ho.out

theorem l6mod {x n : Nat} : (((x : Int) + 1) % (n : Int)) = (((x + 1) % n : Nat) : Int) := by rw [Int.natCast_emod, Int.natCast_add]; rfl

set_option maxHeartbeats 800000 in
theorem l4Corners_any (w : World) (A : Option Addr) (c n : Nat) (xs : List Int) (h : Rd w A n xs) (hg : IsG xs) :
    Calls Try.prog 89 #[.slice A n c] w fun e w' => ∃ v, e = .returned v ∧ Own w' w.heap.size v (corL xs) ∧ Below w.heap.size w w' := by
  obtain ⟨i0, hinf, hz0, hz1, hz2⟩ := info_parts info_int
  have hn10 : n ≤ 10 := by rw [← h.1]; exact hg.2.1
  have H := Lib.hid h; have Hx := Lib.hid h.1; have HG := Lib.hid hg; clear h hg
  go_enter Try.func89, Try.ntmps89
  go_wp2_with fail
  go_loopw [3, 4] (fun v i wr => ∃ k : Nat, k ≤ n ∧ i = .int .i64 k ∧ Hid (wr.ownsRow w.heap.size 3 1 v k (ints ((corL xs).take k))) ∧ Hid (Below w.heap.size w wr)) (fun _ i _ => n - (intOf i).toNat)
  case atStart => exact ⟨0, Nat.zero_le _, rfl, Own.empty (Nat.le_refl _), (Below.refl _ _).alloc (Nat.le_refl _) _⟩
  case round =>
    obtain ⟨k, hk, rfl, ho, hb⟩ := hrel
    have hbs := hb.out.size
    by_cases hlt : k < n
    · obtain ⟨ad, rfl, hc⟩ := (H.out.below hb.out).at_ hlt
      have hlx : k < xs.length := by rw [Hx.out]; exact hlt
      obtain ⟨e1, e2, -, -⟩ := HG.out.gn_at hlx
      obtain ⟨x, hx⟩ : ∃ x, gn xs k = x := ⟨_, rfl⟩
      rw [e1, hx] at hc
      rw [hx, Hx.out] at e2
      have HX := Lib.hid hx; clear hx e1
      have hm1 : ¬ ((n : Int) = 0) := by omega
      have HE : Hid ((corL xs).take (k + 1) = (corL xs).take k ++ [((x : Int) + 1) % (n : Int)]) := by
        have e2' : (corL xs)[k]'(by rw [corL_len]; exact hlx) = ((x : Int) + 1) % (n : Int) := by
          rw [← gi_eq, corL, gi_mulL hlx, HX.out, Hx.out, gi_folL e2, l6mod]
        rw [Hid, List.take_succ_eq_append_getElem (by rw [corL_len]; exact hlx), e2']
      clear hlx
      go_wp2_with (at_builtin; refine wpList_append_own _ rfl _ _ 30 rfl w.heap.size 3 i0 (.int .i64 0) 1 8 Try.underlying30 hinf hz0 hz1 hz2 rfl (by decide) _ _ _ rfl (ho.out.alloc _) ⟨wr.heap.size, 0, none⟩ 1 1 [.int .i64 (((x : Int) + 1) % (n : Int))] rfl rfl (cell_one_new _ _ _) (by intro u hu; simp at hu; subst hu; rfl) (by unfold maxLen; omega) (by omega) (by simp; omega) ?_; intro v1 w1 hown1 hgrow1 _)
      have HO := Lib.hid hown1; have HGR := Lib.hid hgrow1; clear hown1 hgrow1
      go_wp2
      go_roundw
      case rel =>
        refine ⟨k + 1, by omega, by go_num, ?_, ?_⟩
        · have := HO.out
          rw [Hid, HE.out, ints, List.map_append]
          exact this
        · exact (hb.out.alloc hbs _).grown HGR.out (by simp; omega) (fun j hj => (ho.out.lt j hj).1)
      case measure => simp [intOf]; omega
    · have hkn : k = n := by omega
      have HK := Lib.hid hkn; clear hkn
      go_wp2
      go_ret
      refine ⟨_, rfl, ?_, hb.out⟩
      have := ho.out
      rw [List.take_of_length_le (by rw [corL_len, Hx.out, HK.out]; exact Nat.le_refl _)] at this
      unfold Own
      rw [corL_len, Hx.out, ← HK.out]
      exact this

set_option maxHeartbeats 800000 in
theorem corners_any (w : World) (A : Option Addr) (c n : Nat) (xs : List Int) (h : Rd w A n xs) (hg : IsG xs) :
    Calls Try.prog 86 #[.slice A n c] w fun e w' => ∃ v, e = .returned v ∧ Own w' w.heap.size v (corL xs) ∧ Below w.heap.size w w' := by
  have hn10 : n ≤ 10 := by rw [← h.1]; exact hg.2.1
  have hn2 : 2 ≤ n := by rw [← h.1]; exact hg.1
  have H := Lib.hid h; have Hx := Lib.hid h.1; have HG := Lib.hid hg; clear h hg
  go_enter Try.func86, Try.ntmps86
  go_wp2_with fail
  refine (following_any w n (by omega) (by omega)).mono ?_
  rintro e w1 ⟨v, rfl, o, b⟩
  obtain ⟨A1, c1, rfl, r, -⟩ := o.form' (folL_len n)
  have HB := Lib.hid b; have R1 := Lib.hid r; have H1 := Lib.hid (H.out.below b); clear b r o
  go_wp2_with fail
  refine (then_any A A1 n n c c1 xs (folL n) w1 H1.out R1.out (by omega) (by omega) (HG.out.vld.into Hx.out)).mono ?_
  rintro e w2 ⟨v, rfl, o, b⟩
  have HO := Lib.hid (o.mono HB.out.size); have HB2 := Lib.hid (HB.out.trans (b.mono HB.out.size)); clear o b
  go_wp2_with fail
  go_ret
  exact ⟨_, rfl, by rw [corL, Hx.out]; exact HO.out, HB2.out⟩

theorem ncor_le {p : List Int} (h : IsG p) : ncor p ≤ 10 := by
  have := cyclesL_len (p := corL p)
  rw [corL_len] at this
  have := h.2.1
  unfold ncor; omega

set_option maxHeartbeats 800000 in
theorem spec_gcorR (w : World) (A : Option Addr) (c n : Nat) (xs : List Int) (h : Rd w A n xs) (hn : n ≤ 1048576) {r : Int} (hR : gcorR xs = r) :
    Calls Try.prog 41 #[.slice A n c] w fun e w' => e = .returned (.int .i64 r) ∧ Below w.heap.size w w' := by
  by_cases hg : glu xs = true
  · rw [gcorR, if_pos hg] at hR
    have HIG := Lib.hid (glu_iff.1 hg)
    have HG := Lib.hid hg; have HR := Lib.hid hR; have H := Lib.hid h; have Hx := Lib.hid h.1; clear hg hR h
    go_enter Try.func41, Try.ntmps41
    go_wp2_with fail
    refine (spec_glu w A c n xs H.out hn HG.out).mono ?_
    rintro e w1 ⟨rfl, b⟩
    have HB := Lib.hid b; clear b
    go_wp2_with fail
    refine (l4Corners_any w1 A c n xs (H.out.below HB.out) HIG.out).mono ?_
    rintro e w2 ⟨v, rfl, o, b⟩
    obtain ⟨A1, c1, rfl, r1, -⟩ := o.form' ((corL_len xs).trans Hx.out)
    have HB2 := Lib.hid (HB.out.trans (b.mono HB.out.size)); have R1 := Lib.hid r1; clear b o r1
    go_wp2_with fail
    refine (l1Cycles_any A1 n c1 (corL xs) w2 R1.out (corL_vld HIG.out)).mono ?_
    rintro e w3 ⟨v, rfl, o, b⟩
    obtain ⟨A5, c5, rfl⟩ := o.form_len (show (cyclesL (corL xs)).length = ncor xs from rfl)
    have HB3 := Lib.hid (HB2.out.trans (b.mono HB2.out.size)); clear b o
    go_wp2_with fail
    go_ret
    exact ⟨ret_int HR.out, HB3.out⟩
  · rw [gcorR, if_neg hg] at hR
    have hg' : glu xs = false := by simpa using hg
    have HG := Lib.hid hg'; have HR := Lib.hid hR; have H := Lib.hid h; clear hg hg' hR h
    go_enter Try.func41, Try.ntmps41
    go_wp2_with fail
    refine (spec_glu w A c n xs H.out hn HG.out).mono ?_
    rintro e w1 ⟨rfl, b⟩
    have HB := Lib.hid b; clear b
    go_wp2_with fail
    go_ret
    exact ⟨ret_int HR.out, HB.out⟩

set_option maxHeartbeats 800000 in
theorem impl_gcorR (w : World) (A : Option Addr) (c n : Nat) (xs : List Int) (h : Rd w A n xs) (hn : n ≤ 1048576) {r : Int} (hR : gcorR xs = r) :
    Calls Try.prog 40 #[.slice A n c] w fun e w' => e = .returned (.int .i64 r) ∧ Below w.heap.size w w' := by
  by_cases hg : glu xs = true
  · rw [gcorR, if_pos hg] at hR
    have HIG := Lib.hid (glu_iff.1 hg)
    have HG := Lib.hid hg; have HR := Lib.hid hR; have H := Lib.hid h; have Hx := Lib.hid h.1; clear hg hR h
    go_enter Try.func40, Try.ntmps40
    go_wp2_with fail
    refine (impl_glu w A c n xs H.out hn HG.out).mono ?_
    rintro e w1 ⟨rfl, b⟩
    have HB := Lib.hid b; clear b
    go_wp2_with fail
    refine (corners_any w1 A c n xs (H.out.below HB.out) HIG.out).mono ?_
    rintro e w2 ⟨v, rfl, o, b⟩
    obtain ⟨A1, c1, rfl, r1, -⟩ := o.form' ((corL_len xs).trans Hx.out)
    have HB2 := Lib.hid (HB.out.trans (b.mono HB.out.size)); have R1 := Lib.hid r1; clear b o r1
    go_wp2_with fail
    refine (count_any w2 A1 c1 n (corL xs) R1.out (corL_vld HIG.out)).mono ?_
    rintro e w3 ⟨rfl, b⟩
    have HB3 := Lib.hid (HB2.out.trans (b.mono HB2.out.size)); clear b
    go_wp2_with fail
    go_ret
    exact ⟨ret_int HR.out, HB3.out⟩
  · rw [gcorR, if_neg hg] at hR
    have hg' : glu xs = false := by simpa using hg
    have HG := Lib.hid hg'; have HR := Lib.hid hR; have H := Lib.hid h; clear hg hg' hR h
    go_enter Try.func40, Try.ntmps40
    go_wp2_with fail
    refine (impl_glu w A c n xs H.out hn HG.out).mono ?_
    rintro e w1 ⟨rfl, b⟩
    have HB := Lib.hid b; clear b
    go_wp2_with fail
    go_ret
    exact ⟨ret_int HR.out, HB.out⟩

end Go.Proofs.Ytfcgfeopmnjfjaa

namespace Go.Proofs.Ytfcgfeopmnjfjaa
open Go.RowKit

set_option maxHeartbeats 800000 in
theorem genusG_any (w : World) (A : Option Addr) (c n : Nat) (xs : List Int) (h : Rd w A n xs) (hg : IsG xs) {r : Int} (hR : ggen xs = r) :
    Calls Try.prog 93 #[.slice A n c] w fun e w' => e = .returned (.int .i64 r) ∧ Below w.heap.size w w' := by
  have hn10 : n ≤ 10 := by rw [← h.1]; exact hg.2.1
  obtain ⟨q, hq⟩ : ∃ q, ncor xs = q := ⟨_, rfl⟩
  have hq10 : q ≤ 10 := by rw [← hq]; exact ncor_le hg
  have hw : IntKind.i64.wrap ((n : Int) / 2) = ((n / 2 : Nat) : Int) := by rw [IntWalk.i64_in _ (by omega)]; omega
  have s2 : IntKind.i64.wrap (((n / 2 : Nat) : Int) + 1) = ((n / 2 : Nat) : Int) + 1 := IntWalk.i64_in _ (by omega)
  have s3 : IntKind.i64.wrap (((n / 2 : Nat) : Int) + 1 - (q : Int)) = ((n / 2 : Nat) : Int) + 1 - (q : Int) := IntWalk.i64_in _ (by omega)
  have s4 : IntKind.i64.wrap ((((n / 2 : Nat) : Int) + 1 - (q : Int)).tdiv 2) = (((n / 2 : Nat) : Int) + 1 - (q : Int)).tdiv 2 := by
    rw [IntWalk.i64_in _ (by rw [tdiv_eq_if]; split <;> omega)]
  have HR : Hid ((((n / 2 : Nat) : Int) + 1 - (q : Int)).tdiv 2 = r) := by rw [Hid, ← hR, ggen, hq, h.1]
  have HQ : Hid ((cyclesL (corL xs)).length = q) := hq
  have H := Lib.hid h; have Hx := Lib.hid h.1; have HG := Lib.hid hg; clear h hg hR hq
  go_enter Try.func93, Try.ntmps93
  go_wp2_with fail
  refine (corners_any w A c n xs H.out HG.out).mono ?_
  rintro e w1 ⟨v, rfl, o, b⟩
  obtain ⟨A1, c1, rfl, r1, -⟩ := o.form' ((corL_len xs).trans Hx.out)
  have HB := Lib.hid b; have R1 := Lib.hid r1; clear b o r1
  go_wp2_with fail
  refine (count_any w1 A1 c1 n (corL xs) R1.out (corL_vld HG.out)).mono ?_
  rintro e w2 ⟨rfl, b⟩
  rw [HQ.out]
  have HB2 := Lib.hid (HB.out.trans (b.mono HB.out.size)); clear b
  go_wp2_with fail
  go_ret
  exact ⟨ret_int HR.out, HB2.out⟩

set_option maxHeartbeats 800000 in
theorem spec_ggenR (w : World) (A : Option Addr) (c n : Nat) (xs : List Int) (h : Rd w A n xs) (hn : n ≤ 1048576) {r : Int} (hR : ggenR xs = r) :
    Calls Try.prog 47 #[.slice A n c] w fun e w' => e = .returned (.int .i64 r) ∧ Below w.heap.size w w' := by
  by_cases hg : glu xs = true
  · rw [ggenR, if_pos hg] at hR
    have hi := glu_iff.1 hg
    have hn10 : n ≤ 10 := by rw [← h.1]; exact hi.2.1
    obtain ⟨q, hq⟩ : ∃ q, ncor xs = q := ⟨_, rfl⟩
    have hq10 : q ≤ 10 := by rw [← hq]; exact ncor_le hi
    have hw : IntKind.i64.wrap ((n : Int) / 2) = ((n / 2 : Nat) : Int) := by rw [IntWalk.i64_in _ (by omega)]; omega
    have s2 : IntKind.i64.wrap (((n / 2 : Nat) : Int) + 1) = ((n / 2 : Nat) : Int) + 1 := IntWalk.i64_in _ (by omega)
    have s3 : IntKind.i64.wrap (((n / 2 : Nat) : Int) + 1 - (q : Int)) = ((n / 2 : Nat) : Int) + 1 - (q : Int) := IntWalk.i64_in _ (by omega)
    have s4 : IntKind.i64.wrap ((((n / 2 : Nat) : Int) + 1 - (q : Int)).tdiv 2) = (((n / 2 : Nat) : Int) + 1 - (q : Int)).tdiv 2 := by
      rw [IntWalk.i64_in _ (by rw [tdiv_eq_if]; split <;> omega)]
    have HR : Hid ((((n / 2 : Nat) : Int) + 1 - (q : Int)).tdiv 2 = r) := by rw [Hid, ← hR, ggen, hq, h.1]
    have HQ : Hid (gcorR xs = (q : Int)) := by rw [Hid, gcorR, if_pos hg, hq]
    have HG := Lib.hid hg; have H := Lib.hid h; clear hg hR h hq hi
    go_enter Try.func47, Try.ntmps47
    go_wp2_with fail
    refine (spec_glu w A c n xs H.out hn HG.out).mono ?_
    rintro e w1 ⟨rfl, b⟩
    have HB := Lib.hid b; clear b
    go_wp2_with fail
    refine (spec_gcorR w1 A c n xs (H.out.below HB.out) hn HQ.out).mono ?_
    rintro e w2 ⟨rfl, b⟩
    have HB2 := Lib.hid (HB.out.trans (b.mono HB.out.size)); clear b
    go_wp2_with fail
    go_ret
    exact ⟨ret_int HR.out, HB2.out⟩
  · rw [ggenR, if_neg hg] at hR
    have hg' : glu xs = false := by simpa using hg
    have HG := Lib.hid hg'; have HR := Lib.hid hR; have H := Lib.hid h; clear hg hg' hR h
    go_enter Try.func47, Try.ntmps47
    go_wp2_with fail
    refine (spec_glu w A c n xs H.out hn HG.out).mono ?_
    rintro e w1 ⟨rfl, b⟩
    have HB := Lib.hid b; clear b
    go_wp2_with fail
    go_ret
    exact ⟨ret_int HR.out, HB.out⟩

set_option maxHeartbeats 800000 in
theorem impl_ggenR (w : World) (A : Option Addr) (c n : Nat) (xs : List Int) (h : Rd w A n xs) (hn : n ≤ 1048576) {r : Int} (hR : ggenR xs = r) :
    Calls Try.prog 46 #[.slice A n c] w fun e w' => e = .returned (.int .i64 r) ∧ Below w.heap.size w w' := by
  by_cases hg : glu xs = true
  · rw [ggenR, if_pos hg] at hR
    have HG := Lib.hid hg; have HR := Lib.hid hR; have H := Lib.hid h; clear hg hR h
    go_enter Try.func46, Try.ntmps46
    go_wp2_with fail
    refine (impl_glu w A c n xs H.out hn HG.out).mono ?_
    rintro e w1 ⟨rfl, b⟩
    have HB := Lib.hid b; clear b
    go_wp2_with fail
    refine (genusG_any w1 A c n xs (H.out.below HB.out) (glu_iff.1 HG.out) HR.out).mono ?_
    rintro e w2 ⟨rfl, b⟩
    have HB2 := Lib.hid (HB.out.trans (b.mono HB.out.size)); clear b
    go_wp2_with fail
    go_ret
    exact ⟨rfl, HB2.out⟩
  · rw [ggenR, if_neg hg] at hR
    have hg' : glu xs = false := by simpa using hg
    have HG := Lib.hid hg'; have HR := Lib.hid hR; have H := Lib.hid h; clear hg hg' hR h
    go_enter Try.func46, Try.ntmps46
    go_wp2_with fail
    refine (impl_glu w A c n xs H.out hn HG.out).mono ?_
    rintro e w1 ⟨rfl, b⟩
    have HB := Lib.hid b; clear b
    go_wp2_with fail
    go_ret
    exact ⟨ret_int HR.out, HB.out⟩

set_option maxHeartbeats 800000 in
theorem impl_gtuR (w : World) (A : Option Addr) (c n : Nat) (xs : List Int) (h : Rd w A n xs) (hn : n ≤ 1048576) {ok : Bool} {ys : List Int} (hR : gtuR xs = (ok, ys)) :
    Calls Try.prog 44 #[.slice A n c] w fun e w' => ∃ v, e = .returned (.tuple #[v, .bool ok]) ∧ Own w' w.heap.size v ys ∧ Below w.heap.size w w' := by
  by_cases hg : glu xs = true
  · obtain ⟨rfl, rfl⟩ : ok = true ∧ ys = turnG xs := by rw [gtuR, if_pos hg] at hR; simpa [eq_comm] using hR
    have hi := glu_iff.1 hg
    have hn10 : n ≤ 10 := by rw [← h.1]; exact hi.2.1
    have hn2 : 2 ≤ n := by rw [← h.1]; exact hi.1
    have HI := Lib.hid hi; have HG := Lib.hid hg; have Hx := Lib.hid h.1; have H := Lib.hid h; clear hg hR h hi
    go_enter Try.func44, Try.ntmps44
    go_wp2_with fail
    refine (impl_glu w A c n xs H.out hn HG.out).mono ?_
    rintro e w1 ⟨rfl, b⟩
    have HB := Lib.hid b; have H1 := Lib.hid (H.out.below b); clear b
    go_wp2_with fail
    refine (following_any w1 n (by omega) (by omega)).mono ?_
    rintro e w2 ⟨v, rfl, o, b⟩
    obtain ⟨A1, c1, rfl, r1, -⟩ := o.form' (folL_len n)
    have HB2 := Lib.hid (HB.out.trans (b.mono HB.out.size)); have R1 := Lib.hid r1; have H2 := Lib.hid (H1.out.below b); clear b o r1
    go_wp2_with fail
    refine (conj_any A A1 n c c1 xs (folL n) w2 H2.out R1.out (by omega) HI.out.vld (folL_vld n (by omega) (by omega))).mono ?_
    rintro e w3 ⟨v, rfl, o, b⟩
    have HO := Lib.hid (o.mono HB2.out.size); have HB3 := Lib.hid (HB2.out.trans (b.mono HB2.out.size)); clear o b
    go_wp2_with fail
    go_ret2
    exact ⟨_, rfl, by rw [turnG, Hx.out]; exact HO.out, HB3.out⟩
  · have hg' : glu xs = false := by simpa using hg
    obtain ⟨rfl, rfl⟩ : ok = false ∧ ys = [] := by rw [gtuR, if_neg hg] at hR; simpa [eq_comm] using hR
    have HG := Lib.hid hg'; have H := Lib.hid h; clear hg hg' hR h
    go_enter Try.func44, Try.ntmps44
    go_wp2_with fail
    refine (impl_glu w A c n xs H.out hn HG.out).mono ?_
    rintro e w1 ⟨rfl, b⟩
    have HB := Lib.hid b; clear b
    go_wp2_with fail
    go_ret2
    exact ⟨_, rfl, Own.nil_ _ _, HB.out⟩

set_option maxHeartbeats 1600000 in
theorem spec_gtuR (w : World) (A : Option Addr) (c n : Nat) (xs : List Int) (h : Rd w A n xs) (hn : n ≤ 1048576) {ok : Bool} {ys : List Int} (hR : gtuR xs = (ok, ys)) :
    Calls Try.prog 52 #[.slice A n c] w fun e w' => ∃ v, e = .returned (.tuple #[v, .bool ok]) ∧ Own w' w.heap.size v ys ∧ Below w.heap.size w w' := by
  by_cases hg : glu xs = true
  · obtain ⟨rfl, rfl⟩ : ok = true ∧ ys = turnG xs := by rw [gtuR, if_pos hg] at hR; simpa [eq_comm] using hR
    have hi := glu_iff.1 hg
    have hn10 : n ≤ 10 := by rw [← h.1]; exact hi.2.1
    have hn2 : 2 ≤ n := by rw [← h.1]; exact hi.1
    obtain ⟨i0, hinf, hz0, hz1, hz2⟩ := info_parts info_int
    have HI := Lib.hid hi; have HG := Lib.hid hg; have Hx := Lib.hid h.1; have H := Lib.hid h; clear hg hR h hi
    go_enter Try.func52, Try.ntmps52
    go_wp2_with fail
    refine (spec_glu w A c n xs H.out hn HG.out).mono ?_
    rintro e w0 ⟨rfl, b⟩
    have HB0 := Lib.hid b; have H0 := Lib.hid (H.out.below b); clear b
    have hbs0 := HB0.out.size
    go_wp2_with (at_make; refine wpList_make_full _ rfl _ _ 30 rfl w0.heap.size 3 i0 (.int .i64 0) 1 Try.underlying30 hinf hz0 hz1 .i64 .i64 _ _ n rfl rfl rfl rfl (by rw [hz2]; omega) (by unfold maxLen; omega) (Nat.le_refl _) ?_; intro w1 hown1 hgrow1)
    have hb1 := Lib.hid (below_of_grown hgrow1 (Nat.le_refl _) (fun k hk => by cases hk))
    have ho1 := Lib.hid (Own.made hown1)
    clear hown1 hgrow1 hz0 hz1 hz2 hinf
    go_loopw [5] (fun i wr => ∃ (k : Nat) (zs : List Int), k ≤ n ∧ i = .int .i64 k ∧ Hid (Own wr w0.heap.size (.slice (some ⟨w0.heap.size, 0, none⟩) n n) zs) ∧ Hid (zs.length = n) ∧ Hid (Below w0.heap.size w0 wr) ∧ Hid (∀ j, j < k → gi zs ((j + 1) % n) = (((gn xs j + 1) % n : Nat) : Int))) (fun i _ => n - (intOf i).toNat)
    case atStart => exact ⟨0, _, Nat.zero_le _, rfl, ho1, by simp [Hid], hb1, fun j hj => absurd hj (by omega)⟩
    case round =>
      obtain ⟨k, zs, hk, rfl, ho, hzl, hb, hall⟩ := hrel
      by_cases hlt : k < n
      · obtain ⟨ad, rfl, hc⟩ := (H0.out.below hb.out).at_ hlt
        obtain ⟨e1, e2, -, -⟩ := HI.out.gn_at (i := k) (by rw [Hx.out]; exact hlt)
        obtain ⟨x, hx⟩ : ∃ x, gn xs k = x := ⟨_, rfl⟩
        rw [e1, hx] at hc
        rw [hx, Hx.out] at e2
        have HX := Lib.hid hx; clear hx e1
        obtain ⟨y, hy⟩ : ∃ y, (k + 1) % n = y := ⟨_, rfl⟩
        have hyn : y < n := by rw [← hy]; exact Nat.mod_lt _ (by omega)
        have hm1 : ¬ ((n : Int) = 0) := by omega
        have hm2 : ((k : Int) + 1) % (n : Int) = (y : Int) := by rw [l6mod, hy]
        have hyi : (y : Int) < n := by omega
        have hki : (k : Int) < n := by omega
        obtain ⟨g, hg, _, hc3, hf3⟩ := ho.out.cellAt hzl.out hyn
        simp only [Option.some.injEq, Addr.mk.injEq, and_true] at hg
        subst hg
        have HY := Lib.hid hy; clear hy
        have HS := Lib.hid (ho.out.stored hzl.out y (((x : Int) + 1) % (n : Int)))
        go_wp2
        go_region
        all_goals go_wp2
        all_goals go_roundw
        all_goals
          first
          | (refine ⟨k + 1, _, by omega, by go_num, HS.out.1.drewN _, by simpa [Hid] using hzl.out, below_drewN (hb.out.setCell (Nat.le_refl _) _) _, fun j hj => ?_⟩
             rw [gi_set _ _ _ _ (by rw [hzl.out]; exact hyn)]
             by_cases e : j = k
             · rw [if_pos (by rw [e, HY.out]), e, HX.out, l6mod]
             · have hj' : j < k := by omega
               have hne : ¬ ((j + 1) % n = y) := by
                 intro h
                 have h2 := HY.out
                 have h3 : (j + 1) % n = j + 1 := Nat.mod_eq_of_lt (by omega)
                 rcases Nat.lt_or_ge (k + 1) n with c | c
                 · rw [Nat.mod_eq_of_lt c] at h2; omega
                 · have : k + 1 = n := by omega
                   rw [this, Nat.mod_self] at h2; omega
               rw [if_neg hne]; exact hall.out j (by omega))
          | (simp [intOf]; omega)
      · obtain rfl : k = n := by omega
        have HBW := Lib.hid (HB0.out.trans (hb.out.mono hbs0))
        go_wp2
        go_ret2
        refine ⟨_, rfl, ?_, HBW.out⟩
        have e : zs = turnG xs := turnG_eq HI.out (by rw [hzl.out, Hx.out]) (fun i hi => by rw [Hx.out] at hi ⊢; exact hall.out i hi)
        rw [← e]; exact ho.out.mono hbs0
  · have hg' : glu xs = false := by simpa using hg
    obtain ⟨rfl, rfl⟩ : ok = false ∧ ys = [] := by rw [gtuR, if_neg hg] at hR; simpa [eq_comm] using hR
    have HG := Lib.hid hg'; have H := Lib.hid h; clear hg hg' hR h
    go_enter Try.func52, Try.ntmps52
    go_wp2_with fail
    refine (spec_glu w A c n xs H.out hn HG.out).mono ?_
    rintro e w1 ⟨rfl, b⟩
    have HB := Lib.hid b; clear b
    go_wp2_with fail
    go_ret2
    exact ⟨_, rfl, Own.empty HB.out.size, HB.out.alloc HB.out.size _⟩

end Go.Proofs.Ytfcgfeopmnjfjaa
