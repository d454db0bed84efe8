/-
  FnPartsAll: the walk of the law.
-/
import Derived.Test.YtkbdbkoeahihiaaLists
import Derived.Test.YtkbdbkoeahihiaaPAll
import Derived.Test.YtkbdbkoeahihiaaDrawTy
import Derived.Test.YtkbdbkoeahihiaaPtZ
import Derived.Test.YtkbdbkoeahihiaaPtG
import Derived.Test.YtkbdbkoeahihiaaLawN
import Derived.Test.YtkbdbkoeahihiaaFacN
namespace Go.Proofs.Ytkbdbkoeahihiaa
open Go.RowKit

def sqS (L : List (List Int)) : Nat → Int
  | 0 => 0
  | i + 1 => sqS L i + dg (L.getD i []) * dg (L.getD i [])
def szS (L : List (List Int)) : Nat → Int
  | 0 => 0
  | i + 1 => szS L i + cs (L.getD i [])
def pallB (n : Nat) : Bool := decide (n = 0) || (decide (sqS (ptsOf 7 n n) (ptsOf 7 n n).length = fct n) && decide (szS (ptsOf 7 n n) (ptsOf 7 n n).length = fct n) && decide ((ptsOf 7 n n).length ≤ 15) && (List.range (ptsOf 7 n n).length).all fun i =>
  decide (0 ≤ sqS (ptsOf 7 n n) i ∧ sqS (ptsOf 7 n n) i ≤ 1000 ∧ 0 ≤ szS (ptsOf 7 n n) i ∧ szS (ptsOf 7 n n) i ≤ 1000 ∧ 0 ≤ cs ((ptsOf 7 n n).getD i []) ∧ cs ((ptsOf 7 n n).getD i []) ≤ 1000 ∧ 0 ≤ dg ((ptsOf 7 n n).getD i []) ∧ dg ((ptsOf 7 n n).getD i []) ≤ 100 ∧ dg ((ptsOf 7 n n).getD i []) * dg ((ptsOf 7 n n).getD i []) ≤ 1000 ∧ ((ptsOf 7 n n).getD i []).sum = n) && (decide (i = 0) || !eqB ((ptsOf 7 n n).getD i []) ((ptsOf 7 n n).getD (i - 1) [])))
set_option maxHeartbeats 0 in
theorem pallB_all : ∀ n : Nat, n < 7 → pallB n = true := by decide +kernel
theorem pall_law {n : Nat} (h : n < 7) (h0 : 1 ≤ n) {L : List (List Int)} (hL : ptsOf 7 n n = L) : sqS L L.length = fct n ∧ szS L L.length = fct n ∧ L.length ≤ 15 ∧ ∀ i, i < L.length →
    (0 ≤ sqS L i ∧ sqS L i ≤ 1000 ∧ 0 ≤ szS L i ∧ szS L i ≤ 1000 ∧ 0 ≤ cs (L.getD i []) ∧ cs (L.getD i []) ≤ 1000 ∧ 0 ≤ dg (L.getD i []) ∧ dg (L.getD i []) ≤ 100 ∧ dg (L.getD i []) * dg (L.getD i []) ≤ 1000 ∧ (L.getD i []).sum = n) ∧ (0 < i → eqB (L.getD i []) (L.getD (i - 1) []) = false) := by
  have := pallB_all n h
  subst hL
  simp only [pallB, Bool.and_eq_true, Bool.or_eq_true, decide_eq_true_eq, List.all_eq_true, List.mem_range, Bool.not_eq_true'] at this
  obtain ⟨⟨⟨a, b⟩, c⟩, d⟩ := this.resolve_left (by omega)
  exact ⟨a, b, c, fun i hi => ⟨(d i hi).1, fun h0 => (d i hi).2.resolve_left (by omega)⟩⟩

set_option maxRecDepth 100000 in
set_option maxHeartbeats 6400000 in
theorem walk_FnPartsAll (A0 : Option Addr) (n0 c0 : Nat) (bs0 : List Int) (w : World) (h0 : RdB w A0 n0 bs0) (hm0 : n0 ≤ maxLen ∧ n0 ≤ c0) :
    Calls Try.prog 4 #[.slice A0 n0 c0] w fun e w' => e = .returned (.bool true) ∧ Below w.heap.size w w' := by
  have HB0_0 := Lib.hid h0; have hc0 := hm0.2; have hml0 := hm0.1; clear h0 hm0; unfold maxLen at hml0
  by_cases hbig0 : 1048576 < n0
  · have hd : decide ((1048576 : Int) < n0) = true := by simp; omega
    go_enter Try.func4, Try.ntmps4
    go_wp2
    go_ret
    exact ⟨rfl, Below.refl _ _⟩
  have hd0 : decide ((1048576 : Int) < n0) = false := by simp; omega
  have hnb0 : n0 ≤ 1048576 := by omega
  clear hbig0
  go_enter Try.func4, Try.ntmps4
  go_wp2_with fail
  refine (drawPartsAll_any w A0 n0 c0 bs0 HB0_0.out hnb0 hc0).mono ?_
  rintro e w1 ⟨x, rfl, hx, b⟩
  have HB := Lib.hid b; have hs := b.size; clear b
  obtain ⟨ok, LL, hR⟩ : ∃ ok ys, paR (x : Int) = (ok, ys) := ⟨_, _, rfl⟩
  have hlm := paR_len hR
  obtain ⟨m, hm⟩ : ∃ m, LL.length = m := ⟨_, rfl⟩
  rw [hm] at hlm
  have hwf : (Lit.int .i64 (x : Int)).wf = true := WalkArith.wf_i64 (by omega)
  have HR := Lib.hid hR; have HM := Lib.hid hm; have HLM := Lib.hid hlm.2; have hm100 := hlm.1; clear hR hm hlm
  go_wp2_with fail
  refine (impl_paR w1 x hwf HR.out).mono ?_
  rintro e w2 ⟨v, rfl, o, b⟩
  obtain ⟨A1, c1, rfl, -⟩ := o.form HM.out
  have H1 := Lib.hid (o.rd HM.out)
  have HB2 := Lib.hid (HB.out.trans (b.mono hs)); have hs2 := HB2.out.size; clear o b HB
  go_wp2_with fail
  refine (spec_paR w2 x hwf HR.out).mono ?_
  rintro e w3 ⟨v, rfl, o, b⟩
  obtain ⟨A2, c2, rfl, -⟩ := o.form HM.out
  have H2 := Lib.hid (o.rd HM.out)
  have H13 := Lib.hid (H1.out.below b)
  have HB3 := Lib.hid (HB2.out.trans (b.mono hs2)); have hs3 := HB3.out.size; clear o b HB2 H1
  have hok : (ok != ok) = false := by cases ok <;> rfl
  have hok2 : (ok == ok) = true := by cases ok <;> rfl
  by_cases hv : 1 ≤ (x : Int) ∧ (x : Int) ≤ 6
  · obtain ⟨hok1, hys⟩ : ok = true ∧ LL = ptsOf 7 x x := by have := HR.out; rw [paR, if_pos hv] at this; simpa [eq_comm] using this
    subst hok1
    have HLL := Lib.hid hys.symm; clear hys
    have hx1 : 1 ≤ x ∧ x ≤ 6 := by omega
    clear hv
    obtain ⟨q1, q2, q3, q4⟩ := pall_law (by omega) (by omega) HLL.out
    rw [HM.out] at q1 q2 q4
    have hshp := shapes_in x (by omega) (by omega)
    rw [HLL.out] at hshp
    obtain ⟨F, hF⟩ : ∃ F, fct x = F := ⟨_, rfl⟩
    rw [hF] at q1 q2
    have Q1 := Lib.hid q1; have Q2 := Lib.hid q2; have Q4 := Lib.hid q4; have HSH := Lib.hid hshp; have HF := Lib.hid hF
    have hff : (F == F) = true := by simp
    have hxx : ((x : Int) != (x : Int)) = false := by simp
    clear q1 q2 q4 hshp hF
    go_wp2_with (go_at_call 20; refine (sameLists_same A1 A2 m c1 c2 LL w3 H13.out H2.out (by omega)).mono ?_; rintro e w4 ⟨rfl, b⟩; have HB4 := Lib.hid (HB3.out.trans (b.mono hs3)); have H14 := Lib.hid (H13.out.below b); clear b)
    have hs4 := HB4.out.size
    go_loopw [8, 9, 10] (fun sv zv iv wr => ∃ (i : Nat) (s z : Int), i ≤ m ∧ sv = .int .i64 s ∧ zv = .int .i64 z ∧ iv = .int .i64 i ∧ Hid (s = sqS LL i) ∧ Hid (z = szS LL i) ∧ Hid (Below w4.heap.size w4 wr)) (fun _ _ iv _ => m - (intOf iv).toNat)
    case atStart => exact ⟨0, 0, 0, Nat.zero_le _, rfl, rfl, rfl, rfl, rfl, Below.refl _ _⟩
    case round =>
      obtain ⟨i, s, z, hi, rfl, rfl, rfl, hS, hZ, hB⟩ := hrel
      have hbs := hB.out.size
      by_cases hlt : i < m
      · obtain ⟨⟨t1, t2, t3, t4, t5, t6, t7, t8, t9, t10⟩, t11⟩ := Q4.out i hlt
        rw [← hS.out] at t1 t2
        rw [← hZ.out] at t3 t4
        have hmem : LL.getD i [] ∈ LL := by rw [List.getD_eq_getElem?_getD, List.getElem?_eq_getElem (by rw [HM.out]; exact hlt)]; exact List.getElem_mem _
        have hpt := (HSH.out _ hmem).1
        obtain ⟨ad, Aj, cj', nj, rfl, hc, hr, hmj⟩ := (H14.out.below hB.out).at_ hlt
        have hS1 : sqS LL (i + 1) = s + dg (LL.getD i []) * dg (LL.getD i []) := by rw [sqS, ← hS.out]
        have hZ1 : szS LL (i + 1) = z + cs (LL.getD i []) := by rw [szS, ← hZ.out]
        obtain ⟨a, ha⟩ : ∃ a, LL.getD i [] = a := ⟨_, rfl⟩
        rw [ha] at t5 t6 t7 t8 t9 t10 t11 hpt hr hS1 hZ1
        obtain ⟨d, hd⟩ : ∃ d, dg a = d := ⟨_, rfl⟩
        obtain ⟨k, hk⟩ : ∃ k, cs a = k := ⟨_, rfl⟩
        rw [hd] at t7 t8 t9 hS1
        rw [hk] at t5 t6 hZ1
        have hdd0 : 0 ≤ d * d := Int.mul_nonneg t7 t7
        obtain ⟨dd, hdd⟩ : ∃ dd, d * d = dd := ⟨_, rfl⟩
        rw [hdd] at t9 hS1 hdd0
        have hm1 : IntKind.i64.wrap (d * d) = dd := by rw [hdd]; exact IntWalk.i64_in _ (by omega)
        obtain ⟨s1, hs1⟩ : ∃ s1, s + dd = s1 := ⟨_, rfl⟩
        obtain ⟨z1, hz1⟩ : ∃ z1, z + k = z1 := ⟨_, rfl⟩
        rw [hs1] at hS1
        rw [hz1] at hZ1
        have hm2 : IntKind.i64.wrap (s + dd) = s1 := by rw [hs1]; exact IntWalk.i64_in _ (by omega)
        have hm3 : IntKind.i64.wrap (z + k) = z1 := by rw [hz1]; exact IntWalk.i64_in _ (by omega)
        have hnj : nj ≤ 6 := by have := (Pt_of hpt).len; rw [hr.1] at this; exact this
        have HR := Lib.hid hr; have HPT := Lib.hid hpt; have HSU := Lib.hid t10; have HEQ := Lib.hid t11; have HD := Lib.hid hd; have HK := Lib.hid hk; have HS1 := Lib.hid hS1; have HZ1 := Lib.hid hZ1; have HC := Lib.hid hc; have HA := Lib.hid ha
        clear hr hpt t10 t11 hd hk hS1 hZ1 ha hmem hdd hs1 hz1 t1 t2 t3 t4
        obtain ⟨i1, hi1⟩ : ∃ i1, i - 1 = i1 := ⟨_, rfl⟩
        have HI1 := Lib.hid hi1
        by_cases hi0 : 0 < i
        · obtain ⟨_, Ap, cp', np, e, hcp, hrp, hmp⟩ := (H14.out.below hB.out).at_ (k := i1) (by omega)
          simp only [Option.some.injEq] at e
          subst e
          have heq := HEQ.out hi0
          rw [hi1] at heq
          have hsub : IntKind.i64.wrap ((i : Int) - 1) = (i1 : Int) := by rw [IntWalk.i64_in _ (by omega)]; omega
          have hg1 : decide (0 < i) = true := by simpa using hi0
          have hg1' : decide ((0 : Int) < (i : Int)) = true := by simp; omega
          have hmp' : np ≤ maxLen := hmp
          have hi1m : i1 < m := by omega
          have hipos : 0 ≤ (i1 : Int) := by omega
          have hsi : ∀ W, Rd W Aj nj a → Rd W Ap np (LL.getD i1 []) → Calls Try.prog 17 #[.slice Aj nj cj', .slice Ap np cp'] W fun e w' => e = .returned (.bool false) ∧ ∃ k, w' = W.drewN k := fun W h1 h2 =>
            (sameInts_any Aj Ap nj np cj' cp' _ _ W h1 h2 hmj hmp).mono fun e w' ⟨he, hk⟩ => ⟨by rw [he, heq], hk⟩
          have HRP := Lib.hid hrp; have HE := Lib.hid heq; have HCP := Lib.hid hcp; have HSI := Lib.hid hsi; clear hsi
          clear hrp heq hi1
          go_wp2_with (first
            | (go_at_call 21; refine (impl_dgR _ Aj cj' nj a HR.out (by omega) (r := d) (by rw [dgR, if_pos HPT.out]; exact HD.out)).mono ?_; rintro e w5 ⟨rfl, b5⟩; have HB5 := Lib.hid b5; have HR5 := Lib.hid (HR.out.below b5); have HRP5 := Lib.hid (HRP.out.below b5); have hc5 := (b5.cell (World.block_lt_of_cell? _ _ HC.out)).trans HC.out; have HC5 := Lib.hid hc5; have HCP5 := Lib.hid ((b5.cell (World.block_lt_of_cell? _ _ HCP.out)).trans HCP.out); clear b5)
            | (go_at_call 22; refine (impl_csR _ Aj cj' nj a HR5.out (by omega) (r := k) (by rw [csR, if_pos HPT.out]; exact HK.out)).mono ?_; rintro e w6 ⟨rfl, b6⟩; have HB6 := Lib.hid b6; have HR6 := Lib.hid (HR5.out.below b6); have HRP6 := Lib.hid (HRP5.out.below b6); have hc6 := (b6.cell (World.block_lt_of_cell? _ _ HC5.out)).trans HC5.out; have hcp6 := (b6.cell (World.block_lt_of_cell? _ _ HCP5.out)).trans HCP5.out; clear b6))
          go_quiet ((first
            | (go_at_call 10; exact (impl_pts _ Aj cj' nj a (HR6.out.drewN _) (by omega) (r := true) HPT.out).mono fun e w' h => ⟨h.1, _, h.2⟩)
            | (go_at_call 15; exact (sumOf_w _ Aj nj cj' a (HR6.out.drewN _) (by omega) (fun j hj => by have := (Pt_of HPT.out).le (j := j) (by rw [HR6.out.1]; exact hj); omega) HSU.out).mono fun e w' h => ⟨h.1, _, h.2.symm⟩)
            | (go_at_call 17; exact (HSI.out _ (HR6.out.drewN _) (HRP6.out.drewN _)).mono fun e w' ⟨he, q, hw⟩ => ⟨he, _, hw.trans (World.drewN_drewN _ _ _)⟩)))
          go_wp2_with fail
          go_roundw
          case rel => exact ⟨i + 1, s1, z1, by omega, by first | rfl | exact congrArg _ hm2, by first | rfl | exact congrArg _ hm3, by go_num, HS1.out.symm, HZ1.out.symm, below_drewN ((hB.out.trans (HB5.out.mono hbs)).trans (HB6.out.mono (Nat.le_trans hbs HB5.out.size))) _⟩
          case measure => simp [intOf]; omega
        · have hg1 : decide (0 < i) = false := by simpa using hi0
          have hg1' : decide ((0 : Int) < (i : Int)) = false := by simp; omega
          clear hi1
          go_wp2_with (first
            | (go_at_call 21; refine (impl_dgR _ Aj cj' nj a HR.out (by omega) (r := d) (by rw [dgR, if_pos HPT.out]; exact HD.out)).mono ?_; rintro e w5 ⟨rfl, b5⟩; have HB5 := Lib.hid b5; have HR5 := Lib.hid (HR.out.below b5); have hc5 := (b5.cell (World.block_lt_of_cell? _ _ HC.out)).trans HC.out; have HC5 := Lib.hid hc5; clear b5)
            | (go_at_call 22; refine (impl_csR _ Aj cj' nj a HR5.out (by omega) (r := k) (by rw [csR, if_pos HPT.out]; exact HK.out)).mono ?_; rintro e w6 ⟨rfl, b6⟩; have HB6 := Lib.hid b6; have HR6 := Lib.hid (HR5.out.below b6); have hc6 := (b6.cell (World.block_lt_of_cell? _ _ HC5.out)).trans HC5.out; clear b6))
          go_quiet ((first
            | (go_at_call 10; exact (impl_pts _ Aj cj' nj a (HR6.out.drewN _) (by omega) (r := true) HPT.out).mono fun e w' h => ⟨h.1, _, h.2⟩)
            | (go_at_call 15; exact (sumOf_w _ Aj nj cj' a (HR6.out.drewN _) (by omega) (fun j hj => by have := (Pt_of HPT.out).le (j := j) (by rw [HR6.out.1]; exact hj); omega) HSU.out).mono fun e w' h => ⟨h.1, _, h.2.symm⟩)))
          go_wp2_with fail
          go_roundw
          case rel => exact ⟨i + 1, s1, z1, by omega, by first | rfl | exact congrArg _ hm2, by first | rfl | exact congrArg _ hm3, by go_num, HS1.out.symm, HZ1.out.symm, below_drewN ((hB.out.trans (HB5.out.mono hbs)).trans (HB6.out.mono (Nat.le_trans hbs HB5.out.size))) _⟩
          case measure => simp [intOf]; omega
      · have him : i = m := by omega
        have hsF : s = F := by rw [hS.out, him]; exact Q1.out
        have hzF : z = F := by rw [hZ.out, him]; exact Q2.out
        subst hsF
        obtain rfl : z = s := hzF
        clear him
        go_wp2_with (go_at_call 23; refine (timesN_any x _ (by omega)).mono ?_; rintro e wt ⟨rfl, rfl⟩; rw [HF.out])
        go_ret
        exact ⟨rfl, HB4.out.trans (hB.out.mono hs4)⟩
  · obtain ⟨hok1, hys⟩ : ok = false ∧ LL = [] := by have := HR.out; rw [paR, if_neg hv] at this; simpa [eq_comm] using this
    subst hok1
    have HYS := Lib.hid hys; clear hys hv
    go_wp2_with (go_at_call 20; first | (refine (sameLists_same A1 A2 m c1 c2 LL w3 H13.out H2.out (by omega)).mono ?_; rintro e w4 ⟨rfl, b⟩; have HB4 := Lib.hid (HB3.out.trans (b.mono hs3)); have H14 := Lib.hid (H13.out.below b); have H24 := Lib.hid (H2.out.below b); clear b H13) | (refine (sameLists_same A1 A2 m c1 c2 LL w4 H14.out H24.out (by omega)).mono ?_; rintro e w5 ⟨rfl, b⟩; have HB5 := Lib.hid (HB4.out.trans (b.mono HB4.out.size)); clear b))
    go_ret
    exact ⟨rfl, HB5.out⟩

end Go.Proofs.Ytkbdbkoeahihiaa
