/-
  Plain: what the written out forms are: genera, least forms, turns.
  l3Different by contract; RootlessCount, RootlessRoots: the model's and the program's.
-/
import Derived.Test.YtakckkmhhedfpaaRootF
import Derived.Test.YtakckkmhhedfpaaRootP
namespace Go.Proofs.Ytakckkmhhedfpaa

theorem map_pr_inj {n : Nat} : ∀ {a b : List (MV n)}, a.map MV.pr = b.map MV.pr → a = b
  | [], [], _ => rfl
  | [], _ :: _, h => by simp at h
  | _ :: _, [], h => by simp at h
  | x :: a, y :: b, h => by
    rw [List.map_cons, List.map_cons] at h
    injection h with h1 h2
    unfold MV.pr at h1
    injection h1 with h3 h4
    rw [map_pr_inj h2, MV.ext_ h3 h4]
theorem filter_pr {n : Nat} (P : List Int × List Int → Bool) (l : List (MV n)) : (l.filter fun x => P x.pr).map MV.pr = (l.map MV.pr).filter P := by
  induction l with
  | nil => rfl
  | cons x l ih =>
    rw [List.map_cons, List.filter_cons, List.filter_cons]
    split
    · rw [List.map_cons, ih]
    · exact ih
def genP (g : Int) (p : List Int × List Int) : Bool := genusOf p.1 p.2 == g
theorem gL_lits {e : Nat} (h1 : 1 ≤ e) (h3 : e ≤ 3) (g : Int) : (gL e g).map MV.pr = (lits e).filter (genP g) := by
  rw [gL, ← all_genus h1 h3, ← all_lits h1 h3]
  exact filter_pr (genP g) (allM e)
def leastP (p : List Int × List Int) : List Int × List Int := (formT p.1 p.2 (leastTo p.1 p.2 (p.1.length - 1)), formF p.1 p.2 (leastTo p.1 p.2 (p.1.length - 1)))
theorem leastM_P {n : Nat} {x : MV n} (hm : IsMap x.t x.f) (hn : 1 ≤ n) : (leastM x).pr = leastP x.pr := by
  obtain ⟨p1, p2⟩ := leastM_pr hm hn
  unfold MV.pr leastP
  rw [p1, p2, x.ht]
def isLeastP (p : List Int × List Int) : Bool := cmpM p.1 p.2 (leastP p).1 (leastP p).2 == 0
theorem lstL_lits {e : Nat} (h1 : 1 ≤ e) (h3 : e ≤ 3) (g : Int) : (lstL e g).map MV.pr = ((lits e).filter (genP g)).filter isLeastP := by
  rw [← gL_lits h1 h3, ← filter_pr, lstL]
  refine congrArg (List.map MV.pr) (List.filter_congr fun x hx => ?_)
  have h := leastM_P (gL_map h1 h3 x hx) (by omega)
  unfold isLeastP
  rw [← h]
  show (!(cmpM x.t x.f (leastM x).t (leastM x).f != 0)) = (cmpM x.t x.f (leastM x).t (leastM x).f == 0)
  simp [bne]
/-- What the model makes: least forms put in one after the other. -/
noncomputable def difL (e : Nat) (g : Int) (i : Nat) : List (MV (2 * e)) := ((gL e g).take i).foldl (fun a x => putM (leastM x) a) []
theorem difL_one {e : Nat} {g : Int} {i : Nat} (hi : i < (gL e g).length) : difL e g (i + 1) = putM (leastM (gL e g)[i]) (difL e g i) := by
  unfold difL
  rw [List.take_succ_eq_append_getElem hi, List.foldl_append]; rfl
theorem len_foldM {n : Nat} (F : MV n → MV n) : ∀ (l acc : List (MV n)), (l.foldl (fun a x => putM (F x) a) acc).length ≤ acc.length + l.length
  | [], acc => by simp
  | x :: l, acc => by
    rw [List.foldl_cons]
    have h1 := len_foldM F l (putM (F x) acc)
    have h2 := len_putM (x := F x) (l := acc)
    simp only [List.length_cons]; omega
theorem difL_len {e : Nat} {g : Int} {i : Nat} : (difL e g i).length ≤ i := by
  have h := len_foldM leastM ((gL e g).take i) []
  rw [List.length_take] at h
  unfold difL
  simp only [List.length_nil] at h
  omega
def difP (l : List (List Int × List Int)) : List (List Int × List Int) := l.foldl (fun a p => putP (leastP p) a) []
theorem fold_least {n : Nat} (hn : 1 ≤ n) : ∀ (l acc : List (MV n)), (∀ x ∈ l, IsMap x.t x.f) → (l.foldl (fun a x => putM (leastM x) a) acc).map MV.pr = (l.map MV.pr).foldl (fun a p => putP (leastP p) a) (acc.map MV.pr)
  | [], _, _ => rfl
  | x :: l, acc, h => by
    rw [List.foldl_cons, fold_least hn l _ fun y hy => h y (by simp [hy]), putM_pr, List.map_cons, List.foldl_cons, leastM_P (h x (by simp)) hn]
set_option maxRecDepth 100000 in
theorem gen_lits : ∀ e, e < 4 → 1 ≤ e → (lits e).all (fun p => genP 0 p || genP 1 p) = true := by decide +kernel
set_option maxRecDepth 100000 in
theorem dif10 : difP ((lits 1).filter (genP 0)) = ((lits 1).filter (genP 0)).filter isLeastP := by decide +kernel
set_option maxRecDepth 100000 in
theorem dif11 : difP ((lits 1).filter (genP 1)) = ((lits 1).filter (genP 1)).filter isLeastP := by decide +kernel
set_option maxRecDepth 100000 in
theorem dif20 : difP ((lits 2).filter (genP 0)) = ((lits 2).filter (genP 0)).filter isLeastP := by decide +kernel
set_option maxRecDepth 100000 in
theorem dif21 : difP ((lits 2).filter (genP 1)) = ((lits 2).filter (genP 1)).filter isLeastP := by decide +kernel
set_option maxRecDepth 100000 in
theorem dif30 : difP ((lits 3).filter (genP 0)) = ((lits 3).filter (genP 0)).filter isLeastP := by decide +kernel
set_option maxRecDepth 100000 in
theorem dif31 : difP ((lits 3).filter (genP 1)) = ((lits 3).filter (genP 1)).filter isLeastP := by decide +kernel
theorem dif_lits {e : Nat} (h1 : 1 ≤ e) (h3 : e ≤ 3) : difP ((lits e).filter (genP 0)) = ((lits e).filter (genP 0)).filter isLeastP ∧ difP ((lits e).filter (genP 1)) = ((lits e).filter (genP 1)).filter isLeastP := by
  rcases (show e = 1 ∨ e = 2 ∨ e = 3 by omega) with rfl | rfl | rfl
  · exact ⟨dif10, dif11⟩
  · exact ⟨dif20, dif21⟩
  · exact ⟨dif30, dif31⟩
theorem gen_none {e : Nat} (h1 : 1 ≤ e) (h3 : e ≤ 3) {g : Int} (hg : g ≠ 0 ∧ g ≠ 1) : (lits e).filter (genP g) = [] := by
  have h := gen_lits e (by omega) h1
  rw [List.all_eq_true] at h
  refine List.filter_eq_nil_iff.2 fun p hp hc => ?_
  have h2 := h p hp
  unfold genP at h2 hc
  simp only [Bool.or_eq_true, beq_iff_eq] at h2 hc
  rw [hc] at h2
  omega
theorem dif_all {e : Nat} (h1 : 1 ≤ e) (h3 : e ≤ 3) (g : Int) : difL e g (gL e g).length = lstL e g := by
  refine map_pr_inj ?_
  rw [lstL_lits h1 h3, difL, List.take_of_length_le (Nat.le_refl _), fold_least (by omega) _ _ (gL_map h1 h3), gL_lits h1 h3]
  show difP _ = _
  by_cases hg : g ≠ 0 ∧ g ≠ 1
  · rw [gen_none h1 h3 hg]; rfl
  · rcases (show g = 0 ∨ g = 1 by omega) with rfl | rfl
    · exact (dif_lits h1 h3).1
    · exact (dif_lits h1 h3).2

end Go.Proofs.Ytakckkmhhedfpaa

namespace Go.Proofs.Ytakckkmhhedfpaa
open Go.RowKit
set_option linter.unusedVariables false

theorem lstL_map {e : Nat} {g : Int} (h1 : 1 ≤ e) (h3 : e ≤ 3) : ∀ x ∈ lstL e g, IsMap x.t x.f := fun x hx => gL_map h1 h3 x (List.mem_filter.1 hx).1
theorem tdiv_le6 {n T : Nat} (h : n ≤ 6) (hT : 1 ≤ T) : 0 ≤ (n : Int).tdiv T ∧ (n : Int).tdiv T ≤ 6 := by
  rw [Int.tdiv_eq_ediv_of_nonneg (by omega)]
  rw [← Int.natCast_ediv]
  have := Nat.div_le_self n T
  obtain ⟨q, hq⟩ : ∃ q, n / T = q := ⟨_, rfl⟩
  rw [hq] at this ⊢
  omega
theorem trnF_le {n : Nat} (h : n ≤ 6) (x : MV n) : 0 ≤ trnF x ∧ trnF x ≤ 6 := by
  unfold trnF
  by_cases h1 : 1 ≤ turnsTo x.t x.f n
  · exact tdiv_le6 h h1
  · have e : turnsTo x.t x.f n = 0 := by omega
    rw [e]; simp

set_option maxRecDepth 20000 in
set_option maxHeartbeats 3200000 in
theorem l3Diff_any (e : Nat) (gg : Int) (w : World) (h1 : 1 ≤ e) (h3 : e ≤ 3) :
    Calls Try.prog 46 #[.int .i64 e, .int .i64 gg] w fun r w' => ∃ g c, r = .returned (.slice (some ⟨g, 0, none⟩) (lstL e gg).length c) ∧ RowM w' w.heap.size (.slice (some ⟨g, 0, none⟩) (lstL e gg).length c) ((lstL e gg).map MV.pr) ∧ Below w.heap.size w w' := by
  obtain ⟨Wa, hWa⟩ : ∃ Wa, w.alloc (.cells #[] 35) = Wa := ⟨_, rfl⟩
  have HBa : Hid (Below w.heap.size w Wa) := by rw [← hWa]; exact (Below.refl _ _).alloc (Nat.le_refl _) _
  have HRa : Hid (RowM Wa w.heap.size (.slice (some ⟨w.heap.size, 0, none⟩) 0 0) []) := by rw [← hWa]; exact RowM.new_ (Nat.le_refl _)
  go_enter Try.func46, Try.ntmps46
  go_wp2_with fail
  refine (l3All_any e gg Wa h1 h3).mono ?_
  rintro r W1 ⟨g, c, rfl, hrow, hb1⟩
  have HROW : Hid (RowM W1 Wa.heap.size (.slice (some ⟨g, 0, none⟩) (gL e gg).length c) ((gL e gg).map MV.pr)) := hrow
  have HB1 := Lib.hid (HBa.out.trans (hb1.mono HBa.out.size))
  have HR1 := Lib.hid (HRa.out.below hb1)
  rw [show accL e gg (allT e).length = gL e gg from rfl]
  clear hrow hb1
  obtain ⟨ms, hms⟩ : ∃ ms, gL e gg = ms := ⟨_, rfl⟩
  obtain ⟨N, hN⟩ : ∃ N, ms.length = N := ⟨_, rfl⟩
  have hN7 : N ≤ 720 := by rw [← hN, ← hms]; exact gL_few h1 h3
  have HDIF : Hid (difL e gg N = lstL e gg) := by rw [Hid, ← hN, ← hms]; exact dif_all h1 h3 gg
  have HMAP : Hid (∀ (i : Nat) (h : i < ms.length), IsMap (ms[i]).t (ms[i]).f) := fun i h => gL_map h1 h3 (ms[i]) (by rw [hms]; exact List.getElem_mem _)
  have HONE : Hid (∀ (i : Nat) (h : i < ms.length), difL e gg (i + 1) = putM (leastM ms[i]) (difL e gg i)) := by subst hms; exact fun i h => difL_one h
  rw [hms] at HROW ⊢
  rw [hN] at HROW ⊢
  have HN := Lib.hid hN
  clear hN hms
  go_wp2_with fail
  go_loopw [5, 7] (fun ov iv wz => ∃ (i m g2 c2 : Nat), iv = .int .i64 i ∧ i ≤ N ∧ ov = .slice (some ⟨g2, 0, none⟩) m c2 ∧ Hid ((difL e gg i).length = m) ∧ m ≤ 720 ∧ Hid (RowM wz w.heap.size (.slice (some ⟨g2, 0, none⟩) m c2) ((difL e gg i).map MV.pr)) ∧ Hid (Below W1.heap.size W1 wz)) (fun _ iv _ => N - (intOf iv).toNat)
  case atStart => exact ⟨0, 0, w.heap.size, 0, rfl, Nat.zero_le _, rfl, rfl, by omega, HR1.out, Below.refl _ _⟩
  case round =>
    obtain ⟨i, m, g2, c2, rfl, hiN, rfl, hm, hm7, hrow, hb⟩ := hrel
    by_cases hlt : i < N
    · have hil : i < ms.length := by rw [HN.out]; exact hlt
      obtain ⟨u, u', s0, s1, ho⟩ := (HROW.out.below hb.out).cells rfl (j := i) (by rw [List.length_map]; exact hil)
      rw [List.getElem_map] at ho
      obtain ⟨A, d, A', d', rfl, rfl, r1, r2⟩ := ho.form (n := 2 * e) (n' := 2 * e) (ms[i]).ht (ms[i]).hf
      have HM := Lib.hid (HMAP.out i hil)
      have HONE1 := Lib.hid (HONE.out i hil)
      have hiN2 : (i : Int) < (N : Int) := by omega
      obtain ⟨x, hx⟩ : ∃ x, ms[i] = x := ⟨_, rfl⟩
      rw [hx] at HM HONE1 r1 r2
      have HX1 : Hid (Rd wr A (2 * e) x.t) := r1
      have HX2 : Hid (Rd wr A' (2 * e) x.f) := r2
      obtain ⟨y, hy⟩ : ∃ y, leastM x = y := ⟨_, rfl⟩
      obtain ⟨p1, p2⟩ := leastM_pr HM.out (show 1 ≤ 2 * e by omega)
      rw [hy] at p1 p2 HONE1
      clear hx ho r1 r2
      go_wp2_with fail
      refine (l2Least_any wr A A' (2 * e) d d' x.t x.f HX1.out HX2.out HM.out).mono ?_
      rw [← p1, ← p2]
      rintro r w2 ⟨v, v', rfl, o, b2⟩
      obtain ⟨B, k, B', k', rfl, rfl, r3, r4⟩ := o.form (n := 2 * e) (n' := 2 * e) y.ht y.hf
      have HR3 := Lib.hid r3; have HR4 := Lib.hid r4; have HO := Lib.hid o
      have HB2 := Lib.hid (hb.out.trans (b2.mono hb.out.size))
      have HRW2 := Lib.hid (hrow.out.below b2)
      have HSZ : Hid (w.heap.size ≤ wr.heap.size) := (HB1.out.trans (hb.out.mono HB1.out.size)).size
      have HSZ2 : Hid (w.heap.size ≤ w2.heap.size) := Nat.le_trans HSZ.out b2.size
      clear r3 r4 o b2 p1 p2 s0 s1 hy
      go_wp2_with fail
      refine (l3Put_any (n := 2 * e) (by omega) (difL e gg i) y g2 m c2 w.heap.size B B' k k' w2 HRW2.out hm.out (by omega) HR3.out HR4.out HSZ2.out (HO.out.mono HSZ.out)).mono ?_
      rintro r w3 ⟨g3, c3, rfl, rw3, b3⟩
      rw [← HONE1.out] at rw3 ⊢
      have HRW3 := Lib.hid rw3
      have HB3 := Lib.hid (HB2.out.trans (b3.mono HB2.out.size))
      clear rw3 b3
      obtain ⟨m3, hm3⟩ : ∃ m3, (difL e gg (i + 1)).length = m3 := ⟨_, rfl⟩
      rw [hm3] at HRW3 ⊢
      have hm37 : m3 ≤ 720 := by have := difL_len (e := e) (g := gg) (i := i + 1); omega
      have HM3 := Lib.hid hm3
      clear hm3
      go_wp2_with fail
      go_roundw
      case rel => exact ⟨i + 1, m3, g3, c3, by go_num, by omega, rfl, HM3, hm37, HRW3, HB3⟩
      case measure => simp [intOf]; omega
    · obtain rfl : i = N := by omega
      go_wp2_with fail
      go_ret
      rw [← HDIF.out, hm.out]
      exact ⟨g2, c2, rfl, hrow.out, HB1.out.trans (hb.out.mono HB1.out.size)⟩

set_option maxRecDepth 20000 in
set_option maxHeartbeats 1600000 in
theorem impl_rs (w : World) (x0 x1 : Int) (hw0 : (Lit.int .i64 x0).wf = true) (hw1 : (Lit.int .i64 x1).wf = true) {r : Int} (hR : rsF x0 x1 = r) :
    Calls Try.prog 22 #[.int .i64 x0, .int .i64 x1] w fun e w' => e = .returned (.int .i64 r) ∧ Below w.heap.size w w' := by
  cases hok : okB x0 x1 with
  | false =>
    rw [rsF, hok] at hR
    obtain rfl : -1 = r := by simpa using hR
    have HOK := Lib.hid hok; clear hok hR
    go_enter Try.func22, Try.ntmps22
    go_wp2_with fail
    refine (countable_any x0 x1 w).mono ?_
    rw [HOK.out]
    rintro e w1 ⟨rfl, rfl⟩
    go_wp2_with fail
    go_ret
    exact ⟨rfl, Below.refl _ _⟩
  | true =>
    obtain ⟨e, rfl, h1, h3, hin, hg⟩ := okB_nat hok
    rw [rsF, hok, if_pos rfl, Int.toNat_natCast] at hR
    have HOK := Lib.hid hok; have HR := Lib.hid hR; have HI := Lib.hid hin
    clear hok hR hin
    go_enter Try.func22, Try.ntmps22
    go_wp2_with fail
    refine (countable_any e x1 w).mono ?_
    rw [HOK.out]
    rintro e w1 ⟨rfl, rfl⟩
    go_wp2_with fail
    refine (rootlessOf_any e x1 w h1 h3).mono ?_
    rintro r W1 ⟨g, c, rfl, hrow, hb1⟩
    have HROW := Lib.hid hrow.row; have HB1 := Lib.hid hb1
    clear hrow hb1
    obtain ⟨ms, hms⟩ : ∃ ms, lstL e x1 = ms := ⟨_, rfl⟩
    have HMS := Lib.hid hms
    rw [hms] at HR HROW ⊢
    obtain ⟨N, hN⟩ : ∃ N, ms.length = N := ⟨_, rfl⟩
    rw [hN] at HROW ⊢
    have hN7 : N ≤ 720 := by rw [← hN, ← hms]; exact lstL_few h1 h3
    have HN := Lib.hid hN
    clear hN hms
    go_wp2_with fail
    go_ret
    exact ⟨ret_int (by rw [← HR.out, HN.out]), HB1.out⟩

set_option maxRecDepth 20000 in
set_option maxHeartbeats 1600000 in
theorem spec_rs (w : World) (x0 x1 : Int) (hw0 : (Lit.int .i64 x0).wf = true) (hw1 : (Lit.int .i64 x1).wf = true) {r : Int} (hR : rsF x0 x1 = r) :
    Calls Try.prog 21 #[.int .i64 x0, .int .i64 x1] w fun e w' => e = .returned (.int .i64 r) ∧ Below w.heap.size w w' := by
  cases hok : okB x0 x1 with
  | false =>
    rw [rsF, hok] at hR
    obtain rfl : -1 = r := by simpa using hR
    have HOK := Lib.hid hok; clear hok hR
    by_cases hg : 0 ≤ x1
    · have HI : Hid (inB x0 1 3 = false) := by
        have h := HOK.out
        unfold okB at h
        rw [decide_eq_true hg, Bool.and_true] at h
        exact h
      go_enter Try.func21, Try.ntmps21
      go_wp2_with fail
      refine (l6In_any x0 1 3 w).mono ?_
      rw [HI.out]
      rintro e w1 ⟨rfl, rfl⟩
      go_wp2_with fail
      go_ret
      exact ⟨rfl, Below.refl _ _⟩
    · cases hi : inB x0 1 3 with
      | false =>
        have HI := Lib.hid hi; clear hi
        go_enter Try.func21, Try.ntmps21
        go_wp2_with fail
        refine (l6In_any x0 1 3 w).mono ?_
        rw [HI.out]
        rintro e w1 ⟨rfl, rfl⟩
        go_wp2_with fail
        go_ret
        exact ⟨rfl, Below.refl _ _⟩
      | true =>
        have HI := Lib.hid hi; clear hi
        go_enter Try.func21, Try.ntmps21
        go_wp2_with fail
        refine (l6In_any x0 1 3 w).mono ?_
        rw [HI.out]
        rintro e w1 ⟨rfl, rfl⟩
        go_wp2_with fail
        go_ret
        exact ⟨rfl, Below.refl _ _⟩
  | true =>
    obtain ⟨e, rfl, h1, h3, hin, hg⟩ := okB_nat hok
    rw [rsF, hok, if_pos rfl, Int.toNat_natCast] at hR
    have HOK := Lib.hid hok; have HR := Lib.hid hR; have HI := Lib.hid hin
    clear hok hR hin
    go_enter Try.func21, Try.ntmps21
    go_wp2_with fail
    refine (l6In_any e 1 3 w).mono ?_
    rw [HI.out]
    rintro e w1 ⟨rfl, rfl⟩
    go_wp2_with fail
    refine (l3Diff_any e x1 w h1 h3).mono ?_
    rintro r W1 ⟨g, c, rfl, hrow, hb1⟩
    have HROW := Lib.hid hrow; have HB1 := Lib.hid hb1
    clear hrow hb1
    obtain ⟨ms, hms⟩ : ∃ ms, lstL e x1 = ms := ⟨_, rfl⟩
    have HMS := Lib.hid hms
    rw [hms] at HR HROW ⊢
    obtain ⟨N, hN⟩ : ∃ N, ms.length = N := ⟨_, rfl⟩
    rw [hN] at HROW ⊢
    have hN7 : N ≤ 720 := by rw [← hN, ← hms]; exact lstL_few h1 h3
    have HN := Lib.hid hN
    clear hN hms
    go_wp2_with fail
    go_ret
    exact ⟨ret_int (by rw [← HR.out, HN.out]), HB1.out⟩

set_option maxRecDepth 20000 in
set_option maxHeartbeats 1600000 in
theorem impl_rr (w : World) (x0 x1 : Int) (hw0 : (Lit.int .i64 x0).wf = true) (hw1 : (Lit.int .i64 x1).wf = true) {r : Int} (hR : rrF x0 x1 = r) :
    Calls Try.prog 24 #[.int .i64 x0, .int .i64 x1] w fun e w' => e = .returned (.int .i64 r) ∧ Below w.heap.size w w' := by
  cases hok : okB x0 x1 with
  | false =>
    rw [rrF, hok] at hR
    obtain rfl : -1 = r := by simpa using hR
    have HOK := Lib.hid hok; clear hok hR
    go_enter Try.func24, Try.ntmps24
    go_wp2_with fail
    refine (countable_any x0 x1 w).mono ?_
    rw [HOK.out]
    rintro e w1 ⟨rfl, rfl⟩
    go_wp2_with fail
    go_ret
    exact ⟨rfl, Below.refl _ _⟩
  | true =>
    obtain ⟨e, rfl, h1, h3, hin, hg⟩ := okB_nat hok
    rw [rrF, hok, if_pos rfl, Int.toNat_natCast] at hR
    have HOK := Lib.hid hok; have HR := Lib.hid hR; have HI := Lib.hid hin
    clear hok hR hin
    go_enter Try.func24, Try.ntmps24
    go_wp2_with fail
    refine (countable_any e x1 w).mono ?_
    rw [HOK.out]
    rintro e w1 ⟨rfl, rfl⟩
    go_wp2_with fail
    refine (rootlessOf_any e x1 w h1 h3).mono ?_
    rintro r W1 ⟨g, c, rfl, hrow, hb1⟩
    have HROW := Lib.hid hrow.row; have HB1 := Lib.hid hb1
    clear hrow hb1
    obtain ⟨ms, hms⟩ : ∃ ms, lstL e x1 = ms := ⟨_, rfl⟩
    have HMS := Lib.hid hms
    rw [hms] at HR HROW ⊢
    obtain ⟨N, hN⟩ : ∃ N, ms.length = N := ⟨_, rfl⟩
    rw [hN] at HROW ⊢
    have hN7 : N ≤ 720 := by rw [← hN, ← hms]; exact lstL_few h1 h3
    have HN := Lib.hid hN
    clear hN hms
    have HMAP : Hid (∀ (i : Nat) (h : i < ms.length), IsMap (ms[i]).t (ms[i]).f) := fun i h => lstL_map h1 h3 (ms[i]) (by rw [HMS.out]; exact List.getElem_mem _)
    have HUP : Hid (∀ i, 0 ≤ upTo trnF ms i ∧ upTo trnF ms i ≤ 6 * (i : Int)) := upTo_le (by omega) (trnF_le (by omega)) ms
    go_wp2_with fail
    go_loopw [5, 16] (fun sv iv wz => ∃ i : Nat, iv = .int .i64 i ∧ i ≤ N ∧ sv = .int .i64 (upTo trnF ms i) ∧ Hid (Below W1.heap.size W1 wz)) (fun _ iv _ => N - (intOf iv).toNat)
    case atStart => exact ⟨0, rfl, Nat.zero_le _, rfl, Below.refl _ _⟩
    case round =>
      obtain ⟨i, rfl, hiN, rfl, hb⟩ := hrel
      have hup := HUP.out i
      by_cases hlt : i < N
      · have hil : i < ms.length := by rw [HN.out]; exact hlt
        obtain ⟨u, u', s0, s1, ho⟩ := (HROW.out.below hb.out).cells rfl (j := i) (by rw [List.length_map]; exact hil)
        rw [List.getElem_map] at ho
        obtain ⟨A, d, A', d', rfl, rfl, r1, r2⟩ := ho.form (n := 2 * e) (n' := 2 * e) (ms[i]).ht (ms[i]).hf
        have hm := HMAP.out i hil
        have hiN2 : (i : Int) < (N : Int) := by omega
        obtain ⟨x, hx⟩ : ∃ x, ms[i] = x := ⟨_, rfl⟩
        have HS : Hid (upTo trnF ms (i + 1) = upTo trnF ms i + trnF x) := by rw [Hid, upTo_one trnF hil, hx]
        rw [hx] at hm r1 r2
        change Rd wr A (2 * e) x.t at r1; change Rd wr A' (2 * e) x.f at r2
        obtain ⟨s, hs⟩ : ∃ s, upTo trnF ms i = s := ⟨_, rfl⟩
        rw [hs] at hup HS ⊢
        clear hx ho hs
        have hglt : g < wr.heap.size := by
          obtain ⟨vs, ho, -⟩ := HROW.out.below hb.out
          exact (ho.lt g rfl).2
        obtain ⟨W0, hW0, hz, hb0, hs0⟩ := Box.local_ wr 35 (.slice none 0 0) (.slice none 0 0)
        have z0 := hz.cell0; have z1 := hz.cell1; have z2 := hz.frozen 0; have z3 := hz.frozen 1
        obtain ⟨q1, q2⟩ := hz.store2 (.slice A (2 * e) d) (.slice A' (2 * e) d')
        obtain ⟨WB, hWB⟩ : ∃ W1, (W0.setCell ⟨wr.heap.size, 0, none⟩ (.slice A (2 * e) d)).setCell ⟨wr.heap.size, 1, none⟩ (.slice A' (2 * e) d') = W1 := ⟨_, rfl⟩
        have HBW : Hid (Below wr.heap.size wr WB) := by rw [Hid, ← hWB]; exact hb0.grown q2 hb0.size (fun k hk => by cases hk; omega)
        have HBX : Hid (Box2 WB wr.heap.size A (2 * e) d A' (2 * e) d') := by rw [Hid, ← hWB]; exact q1
        have e0 : W0.cell? ⟨g, i * 2, none⟩ = some (.slice A (2 * e) d) := (hb0.cell (p := ⟨g, i * 2, none⟩) hglt).trans s0
        have e1 : W0.cell? ⟨g, i * 2 + 1, none⟩ = some (.slice A' (2 * e) d') := (hb0.cell (p := ⟨g, i * 2 + 1, none⟩) hglt).trans s1
        have HR1 := Lib.hid (r1.below HBW.out); have HR2 := Lib.hid (r2.below HBW.out); have HM := Lib.hid hm
        clear q1 q2 hb0 hz hs0 r1 r2 hm
        obtain ⟨T, hT⟩ : ∃ T, turnsTo x.t x.f (2 * e) = T := ⟨_, rfl⟩
        have hT1 : 1 ≤ T := by rw [← hT]; exact turnsTo_pos _ (by omega)
        have HTR : Hid (turnsR x.t x.f = (T : Int)) := by rw [Hid, turnsR, if_pos (mapV_iff.2 HM.out), x.ht, hT]
        have hw2 : IntKind.i64.wrap (2 * (e : Int)) = 2 * (e : Int) := by rw [IntWalk.i64_in _ (by omega)]
        obtain ⟨q, hq⟩ : ∃ q, (2 * (e : Int)).tdiv (T : Int) = q := ⟨_, rfl⟩
        have hqn : ((2 * e : Nat) : Int).tdiv (T : Int) = q := by rw [Int.natCast_mul]; exact hq
        have hq0 : 0 ≤ q ∧ q ≤ 6 := by rw [← hqn]; exact tdiv_le6 (by omega) hT1
        have hq2 : (2 * (e : Int)) / (T : Int) = q := by rw [← hq, Int.tdiv_eq_ediv_of_nonneg (by omega)]
        have hT0 : ((T : Int) == 0) = false := by simp; omega
        have hTn : ¬ (T : Int) = 0 := by omega
        have HONE : Hid (trnF x = q) := by rw [Hid, trnF, hT, hqn]
        have c0 := HBX.out.cell0; have c1 := HBX.out.cell1
        clear hT hqn
        go_wp2_with fail
        refine (impl_turnsR WB A A' (2 * e) (2 * e) d d' x.t x.f HR1.out HR2.out (by omega) (by omega) HTR.out).mono ?_
        rintro r w2 ⟨rfl, b2⟩
        have HB2 := Lib.hid (hb.out.trans ((HBW.out.trans (b2.mono HBW.out.size)).mono hb.out.size))
        clear b2 z0 z1 z2 z3 s0 s1 e0 e1 hW0 hWB c0 c1
        go_wp2_with fail
        go_roundw
        case rel => exact ⟨i + 1, by go_num, by omega, by rw [HS.out, HONE.out], HB2⟩
        case measure => simp [intOf]; omega
      · obtain rfl : i = N := by omega
        have HRR : Hid (upTo trnF ms i = r) := by rw [Hid, ← HN.out, upTo_all]; exact HR.out
        go_wp2_with fail
        go_ret
        exact ⟨ret_int HRR.out, HB1.out.trans (hb.out.mono HB1.out.size)⟩

set_option maxRecDepth 20000 in
set_option maxHeartbeats 1600000 in
theorem spec_rr (w : World) (x0 x1 : Int) (hw0 : (Lit.int .i64 x0).wf = true) (hw1 : (Lit.int .i64 x1).wf = true) {r : Int} (hR : rrF x0 x1 = r) :
    Calls Try.prog 23 #[.int .i64 x0, .int .i64 x1] w fun e w' => e = .returned (.int .i64 r) ∧ Below w.heap.size w w' := by
  cases hok : okB x0 x1 with
  | false =>
    rw [rrF, hok] at hR
    obtain rfl : -1 = r := by simpa using hR
    have HOK := Lib.hid hok; clear hok hR
    by_cases hg : 0 ≤ x1
    · have HI : Hid (inB x0 1 3 = false) := by
        have h := HOK.out
        unfold okB at h
        rw [decide_eq_true hg, Bool.and_true] at h
        exact h
      go_enter Try.func23, Try.ntmps23
      go_wp2_with fail
      refine (l6In_any x0 1 3 w).mono ?_
      rw [HI.out]
      rintro e w1 ⟨rfl, rfl⟩
      go_wp2_with fail
      go_ret
      exact ⟨rfl, Below.refl _ _⟩
    · cases hi : inB x0 1 3 with
      | false =>
        have HI := Lib.hid hi; clear hi
        go_enter Try.func23, Try.ntmps23
        go_wp2_with fail
        refine (l6In_any x0 1 3 w).mono ?_
        rw [HI.out]
        rintro e w1 ⟨rfl, rfl⟩
        go_wp2_with fail
        go_ret
        exact ⟨rfl, Below.refl _ _⟩
      | true =>
        have HI := Lib.hid hi; clear hi
        go_enter Try.func23, Try.ntmps23
        go_wp2_with fail
        refine (l6In_any x0 1 3 w).mono ?_
        rw [HI.out]
        rintro e w1 ⟨rfl, rfl⟩
        go_wp2_with fail
        go_ret
        exact ⟨rfl, Below.refl _ _⟩
  | true =>
    obtain ⟨e, rfl, h1, h3, hin, hg⟩ := okB_nat hok
    rw [rrF, hok, if_pos rfl, Int.toNat_natCast] at hR
    have HOK := Lib.hid hok; have HR := Lib.hid hR; have HI := Lib.hid hin
    clear hok hR hin
    go_enter Try.func23, Try.ntmps23
    go_wp2_with fail
    refine (l6In_any e 1 3 w).mono ?_
    rw [HI.out]
    rintro e w1 ⟨rfl, rfl⟩
    go_wp2_with fail
    refine (l3Diff_any e x1 w h1 h3).mono ?_
    rintro r W1 ⟨g, c, rfl, hrow, hb1⟩
    have HROW := Lib.hid hrow; have HB1 := Lib.hid hb1
    clear hrow hb1
    obtain ⟨ms, hms⟩ : ∃ ms, lstL e x1 = ms := ⟨_, rfl⟩
    have HMS := Lib.hid hms
    rw [hms] at HR HROW ⊢
    obtain ⟨N, hN⟩ : ∃ N, ms.length = N := ⟨_, rfl⟩
    rw [hN] at HROW ⊢
    have hN7 : N ≤ 720 := by rw [← hN, ← hms]; exact lstL_few h1 h3
    have HN := Lib.hid hN
    clear hN hms
    have HMAP : Hid (∀ (i : Nat) (h : i < ms.length), IsMap (ms[i]).t (ms[i]).f) := fun i h => lstL_map h1 h3 (ms[i]) (by rw [HMS.out]; exact List.getElem_mem _)
    have HUP : Hid (∀ i, 0 ≤ upTo trnF ms i ∧ upTo trnF ms i ≤ 6 * (i : Int)) := upTo_le (by omega) (trnF_le (by omega)) ms
    go_wp2_with fail
    go_loopw [5, 7] (fun sv iv wz => ∃ i : Nat, iv = .int .i64 i ∧ i ≤ N ∧ sv = .int .i64 (upTo trnF ms i) ∧ Hid (Below W1.heap.size W1 wz)) (fun _ iv _ => N - (intOf iv).toNat)
    case atStart => exact ⟨0, rfl, Nat.zero_le _, rfl, Below.refl _ _⟩
    case round =>
      obtain ⟨i, rfl, hiN, rfl, hb⟩ := hrel
      have hup := HUP.out i
      by_cases hlt : i < N
      · have hil : i < ms.length := by rw [HN.out]; exact hlt
        obtain ⟨u, u', s0, s1, ho⟩ := (HROW.out.below hb.out).cells rfl (j := i) (by rw [List.length_map]; exact hil)
        rw [List.getElem_map] at ho
        obtain ⟨A, d, A', d', rfl, rfl, r1, r2⟩ := ho.form (n := 2 * e) (n' := 2 * e) (ms[i]).ht (ms[i]).hf
        have hm := HMAP.out i hil
        have hiN2 : (i : Int) < (N : Int) := by omega
        obtain ⟨x, hx⟩ : ∃ x, ms[i] = x := ⟨_, rfl⟩
        have HS : Hid (upTo trnF ms (i + 1) = upTo trnF ms i + trnF x) := by rw [Hid, upTo_one trnF hil, hx]
        rw [hx] at hm r1 r2
        change Rd wr A (2 * e) x.t at r1; change Rd wr A' (2 * e) x.f at r2
        obtain ⟨s, hs⟩ : ∃ s, upTo trnF ms i = s := ⟨_, rfl⟩
        rw [hs] at hup HS ⊢
        clear hx ho hs
        have HM := Lib.hid hm; have HR1 := Lib.hid r1; have HR2 := Lib.hid r2
        clear r1 r2 hm
        obtain ⟨T, hT⟩ : ∃ T, turnsTo x.t x.f (2 * e) = T := ⟨_, rfl⟩
        have hT1 : 1 ≤ T := by rw [← hT]; exact turnsTo_pos _ (by omega)
        have HTR : Hid (turnsR x.t x.f = (T : Int)) := by rw [Hid, turnsR, if_pos (mapV_iff.2 HM.out), x.ht, hT]
        have hw2 : IntKind.i64.wrap (2 * (e : Int)) = 2 * (e : Int) := by rw [IntWalk.i64_in _ (by omega)]
        obtain ⟨q, hq⟩ : ∃ q, (2 * (e : Int)).tdiv (T : Int) = q := ⟨_, rfl⟩
        have hqn : ((2 * e : Nat) : Int).tdiv (T : Int) = q := by rw [Int.natCast_mul]; exact hq
        have hq0 : 0 ≤ q ∧ q ≤ 6 := by rw [← hqn]; exact tdiv_le6 (by omega) hT1
        have hq2 : (2 * (e : Int)) / (T : Int) = q := by rw [← hq, Int.tdiv_eq_ediv_of_nonneg (by omega)]
        have hT0 : ((T : Int) == 0) = false := by simp; omega
        have hTn : ¬ (T : Int) = 0 := by omega
        have HONE : Hid (trnF x = q) := by rw [Hid, trnF, hT, hqn]
        clear hT hqn
        go_wp2_with fail
        refine (spec_turnsR wr A A' (2 * e) (2 * e) d d' x.t x.f HR1.out HR2.out (by omega) (by omega) HTR.out).mono ?_
        rintro r w2 ⟨rfl, b2⟩
        have HB2 := Lib.hid (hb.out.trans (b2.mono hb.out.size))
        clear b2 s0 s1
        go_wp2_with fail
        go_roundw
        case rel => exact ⟨i + 1, by go_num, by omega, by rw [HS.out, HONE.out], HB2⟩
        case measure => simp [intOf]; omega
      · obtain rfl : i = N := by omega
        have HRR : Hid (upTo trnF ms i = r) := by rw [Hid, ← HN.out, upTo_all]; exact HR.out
        go_wp2_with fail
        go_ret
        exact ⟨ret_int HRR.out, HB1.out.trans (hb.out.mono HB1.out.size)⟩

end Go.Proofs.Ytakckkmhhedfpaa
