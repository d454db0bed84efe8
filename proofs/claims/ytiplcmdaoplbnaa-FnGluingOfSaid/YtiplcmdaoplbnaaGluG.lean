/-
  GluingGenus, GluingTurn: the model's and the program's.
-/
import Derived.Test.YtiplcmdaoplbnaaGluD
import Derived.Test.YtiplcmdaoplbnaaConj
namespace Go.Proofs.Ytiplcmdaoplbnaa
open Go.RowKit

set_option maxHeartbeats 800000 in
theorem genusG_any (w : World) (A : Option Addr) (c n : Nat) (xs : List Int) (h : Rd w A n xs) (hg : IsG xs) {r : Int} (hR : ggen xs = r) :
    Calls Try.prog 44 #[.slice A n c] w fun e w' => e = .returned (.int .i64 r) ∧ Below w.heap.size w w' := by
  have hn10 : n ≤ 10 := by rw [← h.1]; exact hg.2.1
  obtain ⟨q, hq⟩ : ∃ q, ncor xs = q := ⟨_, rfl⟩
  have hq10 : q ≤ 10 := by rw [← hq]; exact ncor_le hg
  have hw : IntKind.i64.wrap ((n : Int) / 2) = ((n / 2 : Nat) : Int) := by rw [IntWalk.i64_in _ (by omega)]; omega
  have s2 : IntKind.i64.wrap (((n / 2 : Nat) : Int) + 1) = ((n / 2 : Nat) : Int) + 1 := IntWalk.i64_in _ (by omega)
  have s3 : IntKind.i64.wrap (((n / 2 : Nat) : Int) + 1 - (q : Int)) = ((n / 2 : Nat) : Int) + 1 - (q : Int) := IntWalk.i64_in _ (by omega)
  have s4 : IntKind.i64.wrap ((((n / 2 : Nat) : Int) + 1 - (q : Int)).tdiv 2) = (((n / 2 : Nat) : Int) + 1 - (q : Int)).tdiv 2 := by
    rw [IntWalk.i64_in _ (by rw [tdiv_eq_if]; split <;> omega)]
  have HR : Hid ((((n / 2 : Nat) : Int) + 1 - (q : Int)).tdiv 2 = r) := by rw [Hid, ← hR, ggen, hq, h.1]
  have HQ : Hid ((cyclesL (corL xs)).length = q) := hq
  have H := Lib.hid h; have Hx := Lib.hid h.1; have HG := Lib.hid hg; clear h hg hR hq
  go_enter Try.func44, Try.ntmps44
  go_wp2_with fail
  refine (corners_any w A c n xs H.out HG.out).mono ?_
  rintro e w1 ⟨v, rfl, o, b⟩
  obtain ⟨A1, c1, rfl, r1, -⟩ := o.form' ((corL_len xs).trans Hx.out)
  have HB := Lib.hid b; have R1 := Lib.hid r1; clear b o r1
  go_wp2_with fail
  refine (count_any w1 A1 c1 n (corL xs) R1.out (corL_vld HG.out)).mono ?_
  rintro e w2 ⟨rfl, b⟩
  rw [HQ.out]
  have HB2 := Lib.hid (HB.out.trans (b.mono HB.out.size)); clear b
  go_wp2_with fail
  go_ret
  exact ⟨ret_int HR.out, HB2.out⟩

set_option maxHeartbeats 800000 in
theorem spec_ggenR (w : World) (A : Option Addr) (c n : Nat) (xs : List Int) (h : Rd w A n xs) (hn : n ≤ 1048576) {r : Int} (hR : ggenR xs = r) :
    Calls Try.prog 16 #[.slice A n c] w fun e w' => e = .returned (.int .i64 r) ∧ Below w.heap.size w w' := by
  by_cases hg : glu xs = true
  · rw [ggenR, if_pos hg] at hR
    have hi := glu_iff.1 hg
    have hn10 : n ≤ 10 := by rw [← h.1]; exact hi.2.1
    obtain ⟨q, hq⟩ : ∃ q, ncor xs = q := ⟨_, rfl⟩
    have hq10 : q ≤ 10 := by rw [← hq]; exact ncor_le hi
    have hw : IntKind.i64.wrap ((n : Int) / 2) = ((n / 2 : Nat) : Int) := by rw [IntWalk.i64_in _ (by omega)]; omega
    have s2 : IntKind.i64.wrap (((n / 2 : Nat) : Int) + 1) = ((n / 2 : Nat) : Int) + 1 := IntWalk.i64_in _ (by omega)
    have s3 : IntKind.i64.wrap (((n / 2 : Nat) : Int) + 1 - (q : Int)) = ((n / 2 : Nat) : Int) + 1 - (q : Int) := IntWalk.i64_in _ (by omega)
    have s4 : IntKind.i64.wrap ((((n / 2 : Nat) : Int) + 1 - (q : Int)).tdiv 2) = (((n / 2 : Nat) : Int) + 1 - (q : Int)).tdiv 2 := by
      rw [IntWalk.i64_in _ (by rw [tdiv_eq_if]; split <;> omega)]
    have HR : Hid ((((n / 2 : Nat) : Int) + 1 - (q : Int)).tdiv 2 = r) := by rw [Hid, ← hR, ggen, hq, h.1]
    have HQ : Hid (gcorR xs = (q : Int)) := by rw [Hid, gcorR, if_pos hg, hq]
    have HG := Lib.hid hg; have H := Lib.hid h; clear hg hR h hq hi
    go_enter Try.func16, Try.ntmps16
    go_wp2_with fail
    refine (spec_glu w A c n xs H.out hn HG.out).mono ?_
    rintro e w1 ⟨rfl, b⟩
    have HB := Lib.hid b; clear b
    go_wp2_with fail
    refine (spec_gcorR w1 A c n xs (H.out.below HB.out) hn HQ.out).mono ?_
    rintro e w2 ⟨rfl, b⟩
    have HB2 := Lib.hid (HB.out.trans (b.mono HB.out.size)); clear b
    go_wp2_with fail
    go_ret
    exact ⟨ret_int HR.out, HB2.out⟩
  · rw [ggenR, if_neg hg] at hR
    have hg' : glu xs = false := by simpa using hg
    have HG := Lib.hid hg'; have HR := Lib.hid hR; have H := Lib.hid h; clear hg hg' hR h
    go_enter Try.func16, Try.ntmps16
    go_wp2_with fail
    refine (spec_glu w A c n xs H.out hn HG.out).mono ?_
    rintro e w1 ⟨rfl, b⟩
    have HB := Lib.hid b; clear b
    go_wp2_with fail
    go_ret
    exact ⟨ret_int HR.out, HB.out⟩

set_option maxHeartbeats 800000 in
theorem impl_ggenR (w : World) (A : Option Addr) (c n : Nat) (xs : List Int) (h : Rd w A n xs) (hn : n ≤ 1048576) {r : Int} (hR : ggenR xs = r) :
    Calls Try.prog 15 #[.slice A n c] w fun e w' => e = .returned (.int .i64 r) ∧ Below w.heap.size w w' := by
  by_cases hg : glu xs = true
  · rw [ggenR, if_pos hg] at hR
    have HG := Lib.hid hg; have HR := Lib.hid hR; have H := Lib.hid h; clear hg hR h
    go_enter Try.func15, Try.ntmps15
    go_wp2_with fail
    refine (impl_glu w A c n xs H.out hn HG.out).mono ?_
    rintro e w1 ⟨rfl, b⟩
    have HB := Lib.hid b; clear b
    go_wp2_with fail
    refine (genusG_any w1 A c n xs (H.out.below HB.out) (glu_iff.1 HG.out) HR.out).mono ?_
    rintro e w2 ⟨rfl, b⟩
    have HB2 := Lib.hid (HB.out.trans (b.mono HB.out.size)); clear b
    go_wp2_with fail
    go_ret
    exact ⟨rfl, HB2.out⟩
  · rw [ggenR, if_neg hg] at hR
    have hg' : glu xs = false := by simpa using hg
    have HG := Lib.hid hg'; have HR := Lib.hid hR; have H := Lib.hid h; clear hg hg' hR h
    go_enter Try.func15, Try.ntmps15
    go_wp2_with fail
    refine (impl_glu w A c n xs H.out hn HG.out).mono ?_
    rintro e w1 ⟨rfl, b⟩
    have HB := Lib.hid b; clear b
    go_wp2_with fail
    go_ret
    exact ⟨ret_int HR.out, HB.out⟩

set_option maxHeartbeats 800000 in
theorem impl_gtuR (w : World) (A : Option Addr) (c n : Nat) (xs : List Int) (h : Rd w A n xs) (hn : n ≤ 1048576) {ok : Bool} {ys : List Int} (hR : gtuR xs = (ok, ys)) :
    Calls Try.prog 13 #[.slice A n c] w fun e w' => ∃ v, e = .returned (.tuple #[v, .bool ok]) ∧ Own w' w.heap.size v ys ∧ Below w.heap.size w w' := by
  by_cases hg : glu xs = true
  · obtain ⟨rfl, rfl⟩ : ok = true ∧ ys = turnG xs := by rw [gtuR, if_pos hg] at hR; simpa [eq_comm] using hR
    have hi := glu_iff.1 hg
    have hn10 : n ≤ 10 := by rw [← h.1]; exact hi.2.1
    have hn2 : 2 ≤ n := by rw [← h.1]; exact hi.1
    have HI := Lib.hid hi; have HG := Lib.hid hg; have Hx := Lib.hid h.1; have H := Lib.hid h; clear hg hR h hi
    go_enter Try.func13, Try.ntmps13
    go_wp2_with fail
    refine (impl_glu w A c n xs H.out hn HG.out).mono ?_
    rintro e w1 ⟨rfl, b⟩
    have HB := Lib.hid b; have H1 := Lib.hid (H.out.below b); clear b
    go_wp2_with fail
    refine (following_any w1 n (by omega) (by omega)).mono ?_
    rintro e w2 ⟨v, rfl, o, b⟩
    obtain ⟨A1, c1, rfl, r1, -⟩ := o.form' (folL_len n)
    have HB2 := Lib.hid (HB.out.trans (b.mono HB.out.size)); have R1 := Lib.hid r1; have H2 := Lib.hid (H1.out.below b); clear b o r1
    go_wp2_with fail
    refine (conj_any A A1 n c c1 xs (folL n) w2 H2.out R1.out (by omega) HI.out.vld (folL_vld n (by omega) (by omega))).mono ?_
    rintro e w3 ⟨v, rfl, o, b⟩
    have HO := Lib.hid (o.mono HB2.out.size); have HB3 := Lib.hid (HB2.out.trans (b.mono HB2.out.size)); clear o b
    go_wp2_with fail
    go_ret2
    exact ⟨_, rfl, by rw [turnG, Hx.out]; exact HO.out, HB3.out⟩
  · have hg' : glu xs = false := by simpa using hg
    obtain ⟨rfl, rfl⟩ : ok = false ∧ ys = [] := by rw [gtuR, if_neg hg] at hR; simpa [eq_comm] using hR
    have HG := Lib.hid hg'; have H := Lib.hid h; clear hg hg' hR h
    go_enter Try.func13, Try.ntmps13
    go_wp2_with fail
    refine (impl_glu w A c n xs H.out hn HG.out).mono ?_
    rintro e w1 ⟨rfl, b⟩
    have HB := Lib.hid b; clear b
    go_wp2_with fail
    go_ret2
    exact ⟨_, rfl, Own.nil_ _ _, HB.out⟩

set_option maxHeartbeats 1600000 in
theorem spec_gtuR (w : World) (A : Option Addr) (c n : Nat) (xs : List Int) (h : Rd w A n xs) (hn : n ≤ 1048576) {ok : Bool} {ys : List Int} (hR : gtuR xs = (ok, ys)) :
    Calls Try.prog 21 #[.slice A n c] w fun e w' => ∃ v, e = .returned (.tuple #[v, .bool ok]) ∧ Own w' w.heap.size v ys ∧ Below w.heap.size w w' := by
  by_cases hg : glu xs = true
  · obtain ⟨rfl, rfl⟩ : ok = true ∧ ys = turnG xs := by rw [gtuR, if_pos hg] at hR; simpa [eq_comm] using hR
    have hi := glu_iff.1 hg
    have hn10 : n ≤ 10 := by rw [← h.1]; exact hi.2.1
    have hn2 : 2 ≤ n := by rw [← h.1]; exact hi.1
    obtain ⟨i0, hinf, hz0, hz1, hz2⟩ := info_parts info_int
    have HI := Lib.hid hi; have HG := Lib.hid hg; have Hx := Lib.hid h.1; have H := Lib.hid h; clear hg hR h hi
    go_enter Try.func21, Try.ntmps21
    go_wp2_with fail
    refine (spec_glu w A c n xs H.out hn HG.out).mono ?_
    rintro e w0 ⟨rfl, b⟩
    have HB0 := Lib.hid b; have H0 := Lib.hid (H.out.below b); clear b
    have hbs0 := HB0.out.size
    go_wp2_with (at_make; refine wpList_make_full _ rfl _ _ 23 rfl w0.heap.size 3 i0 (.int .i64 0) 1 Try.underlying23 hinf hz0 hz1 .i64 .i64 _ _ n rfl rfl rfl rfl (by rw [hz2]; omega) (by unfold maxLen; omega) (Nat.le_refl _) ?_; intro w1 hown1 hgrow1)
    have hb1 := Lib.hid (below_of_grown hgrow1 (Nat.le_refl _) (fun k hk => by cases hk))
    have ho1 := Lib.hid (Own.made hown1)
    clear hown1 hgrow1 hz0 hz1 hz2 hinf
    go_loopw [5] (fun i wr => ∃ (k : Nat) (zs : List Int), k ≤ n ∧ i = .int .i64 k ∧ Hid (Own wr w0.heap.size (.slice (some ⟨w0.heap.size, 0, none⟩) n n) zs) ∧ Hid (zs.length = n) ∧ Hid (Below w0.heap.size w0 wr) ∧ Hid (∀ j, j < k → gi zs ((j + 1) % n) = (((gn xs j + 1) % n : Nat) : Int))) (fun i _ => n - (intOf i).toNat)
    case atStart => exact ⟨0, _, Nat.zero_le _, rfl, ho1, by simp [Hid], hb1, fun j hj => absurd hj (by omega)⟩
    case round =>
      obtain ⟨k, zs, hk, rfl, ho, hzl, hb, hall⟩ := hrel
      by_cases hlt : k < n
      · obtain ⟨ad, rfl, hc⟩ := (H0.out.below hb.out).at_ hlt
        obtain ⟨e1, e2, -, -⟩ := HI.out.gn_at (i := k) (by rw [Hx.out]; exact hlt)
        obtain ⟨x, hx⟩ : ∃ x, gn xs k = x := ⟨_, rfl⟩
        rw [e1, hx] at hc
        rw [hx, Hx.out] at e2
        have HX := Lib.hid hx; clear hx e1
        obtain ⟨y, hy⟩ : ∃ y, (k + 1) % n = y := ⟨_, rfl⟩
        have hyn : y < n := by rw [← hy]; exact Nat.mod_lt _ (by omega)
        have hm1 : ¬ ((n : Int) = 0) := by omega
        have hm2 : ((k : Int) + 1) % (n : Int) = (y : Int) := by rw [l6mod, hy]
        have hyi : (y : Int) < n := by omega
        have hki : (k : Int) < n := by omega
        obtain ⟨g, hg, _, hc3, hf3⟩ := ho.out.cellAt hzl.out hyn
        simp only [Option.some.injEq, Addr.mk.injEq, and_true] at hg
        subst hg
        have HY := Lib.hid hy; clear hy
        have HS := Lib.hid (ho.out.stored hzl.out y (((x : Int) + 1) % (n : Int)))
        go_wp2
        go_region
        all_goals go_wp2
        all_goals go_roundw
        all_goals
          first
          | (refine ⟨k + 1, _, by omega, by go_num, HS.out.1.drewN _, by simpa [Hid] using hzl.out, below_drewN (hb.out.setCell (Nat.le_refl _) _) _, fun j hj => ?_⟩
             rw [gi_set _ _ _ _ (by rw [hzl.out]; exact hyn)]
             by_cases e : j = k
             · rw [if_pos (by rw [e, HY.out]), e, HX.out, l6mod]
             · have hj' : j < k := by omega
               have hne : ¬ ((j + 1) % n = y) := by
                 intro h
                 have h2 := HY.out
                 have h3 : (j + 1) % n = j + 1 := Nat.mod_eq_of_lt (by omega)
                 rcases Nat.lt_or_ge (k + 1) n with c | c
                 · rw [Nat.mod_eq_of_lt c] at h2; omega
                 · have : k + 1 = n := by omega
                   rw [this, Nat.mod_self] at h2; omega
               rw [if_neg hne]; exact hall.out j (by omega))
          | (simp [intOf]; omega)
      · obtain rfl : k = n := by omega
        have HBW := Lib.hid (HB0.out.trans (hb.out.mono hbs0))
        go_wp2
        go_ret2
        refine ⟨_, rfl, ?_, HBW.out⟩
        have e : zs = turnG xs := turnG_eq HI.out (by rw [hzl.out, Hx.out]) (fun i hi => by rw [Hx.out] at hi ⊢; exact hall.out i hi)
        rw [← e]; exact ho.out.mono hbs0
  · have hg' : glu xs = false := by simpa using hg
    obtain ⟨rfl, rfl⟩ : ok = false ∧ ys = [] := by rw [gtuR, if_neg hg] at hR; simpa [eq_comm] using hR
    have HG := Lib.hid hg'; have H := Lib.hid h; clear hg hg' hR h
    go_enter Try.func21, Try.ntmps21
    go_wp2_with fail
    refine (spec_glu w A c n xs H.out hn HG.out).mono ?_
    rintro e w1 ⟨rfl, b⟩
    have HB := Lib.hid b; clear b
    go_wp2_with fail
    go_ret2
    exact ⟨_, rfl, Own.empty HB.out.size, HB.out.alloc HB.out.size _⟩

end Go.Proofs.Ytiplcmdaoplbnaa
