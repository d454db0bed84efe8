/-
  FnFactorGenus: the walk of the law.
-/
import Derived.Test.YtkbdbkoeahihiaaFacG
import Derived.Test.YtkbdbkoeahihiaaPAll
import Derived.Test.YtkbdbkoeahihiaaDrawTy
import Derived.Test.YtkbdbkoeahihiaaLawN
import Derived.Test.YtkbdbkoeahihiaaLawMap
import Derived.Test.YtkbdbkoeahihiaaLies
namespace Go.Proofs.Ytkbdbkoeahihiaa
open Go.RowKit

/-- The list with one row more. -/
def LongAt (X : World) (zss : List (List Int)) (q : Nat) (lv : Value) (wx : World) : Prop := ∃ g c, lv = .slice (some ⟨g, 0, none⟩) q c ∧ RowO wx X.heap.size (.slice (some ⟨g, 0, none⟩) q c) zss ∧ Below X.heap.size X wx
def gsum (s : Int) : List (List Int) → Int
  | [] => 0
  | x :: r => (s - (x.length : Nat)) + gsum s r
theorem gsum_append (s : Int) (a b : List (List Int)) : gsum s (a ++ b) = gsum s a + gsum s b := by
  induction a with
  | nil => simp [gsum]
  | cons x r ih => simp only [List.cons_append, gsum, ih]; omega
theorem gsum_reverse (s : Int) (a : List (List Int)) : gsum s a.reverse = gsum s a := by
  induction a with
  | nil => rfl
  | cons x r ih => rw [List.reverse_cons, gsum_append, ih]; simp only [gsum]; omega
theorem twi_gsum (xss : List (List Int)) : ∀ i, i ≤ xss.length → twi xss i = 2 - 2 * sumI (row xss 0) + gsum (sumI (row xss 0)) (xss.take i) := by
  intro i
  induction i with
  | zero => intro _; simp [twi, gsum]
  | succ i ih =>
    intro hi
    rw [twi, ih (by omega), List.take_succ_eq_append_getElem (by omega), gsum_append]
    have : row xss i = xss[i] := by simp [row, List.getD, List.getElem?_eq_getElem (show i < xss.length by omega)]
    rw [this]
    simp only [gsum]
    omega
def PtsS (s : Int) (xss : List (List Int)) : Prop := ∀ x ∈ xss, pt x = true ∧ sumI x = s
theorem PtsS.of {xss : List (List Int)} (h : TyOk xss) : PtsS (sumI (row xss 0)) xss := by
  intro x hx
  obtain ⟨i, hi, rfl⟩ := List.getElem_of_mem hx
  have hp := h.pair hi
  have : row xss i = xss[i] := by simp [row, List.getD, List.getElem?_eq_getElem hi]
  rw [this] at hp
  exact ⟨pt_true hp.2.1, hp.2.2.symm⟩
theorem PtsS.append {s : Int} {a b : List (List Int)} (h : PtsS s a) (k : PtsS s b) : PtsS s (a ++ b) := fun x hx => by
  rcases List.mem_append.1 hx with h1 | h1
  · exact h x h1
  · exact k x h1
theorem PtsS.fg {s : Int} {xss : List (List Int)} (h : PtsS s xss) (h1 : 1 ≤ xss.length) (h6 : xss.length ≤ 6) : fgR xss = halfI (2 - 2 * s + gsum s xss) := by
  have hm : ∀ j, j < xss.length → row xss j ∈ xss := fun j hj => by
    rw [row, List.getD_eq_getElem?_getD, List.getElem?_eq_getElem hj]; exact List.getElem_mem _
  have h0 := h _ (hm 0 (by omega))
  have hok : TyOk xss := ⟨h1, h6, fun j hj => prB_iff.2 ⟨Pt_of h0.1, Pt_of (h _ (hm j hj)).1, by rw [h0.2, (h _ (hm j hj)).2]⟩⟩
  rw [fgR, if_pos (by simp [tyB, hok]), twi_gsum xss _ (Nat.le_refl _), h0.2, List.take_length]
theorem half_more {t : Int} (h : 0 ≤ halfI t) : halfI (t + 2) = halfI t + 1 := by
  unfold halfI at *
  by_cases h1 : t < 0
  · rw [if_pos h1] at h; omega
  · rw [if_neg h1] at h ⊢
    by_cases h2 : t % 2 ≠ 0
    · rw [if_pos h2] at h; omega
    · rw [if_neg h2]
      rw [if_neg (by omega), if_neg (by omega)]
      omega
theorem last_ones : ∀ n : Nat, n < 7 → 1 ≤ n → pt ((ptsOf 7 n n).getD ((ptsOf 7 n n).length - 1) []) = true ∧ sumI ((ptsOf 7 n n).getD ((ptsOf 7 n n).length - 1) []) = n ∧ ((ptsOf 7 n n).getD ((ptsOf 7 n n).length - 1) []).length = n ∧ 1 ≤ (ptsOf 7 n n).length ∧ (ptsOf 7 n n).length ≤ 15 := by decide +kernel
theorem swap_ok : ∀ n : Nat, n < 7 → 2 ≤ n → pt (swapL n) = true ∧ sumI (swapL n) = n ∧ (swapL n).length + 1 = n := by decide +kernel
theorem app_below {X wv w' : World} {v : Value} (hb : Below X.heap.size X wv) (hg : wv.grownBy w' v.ownBlock) (hv : ∀ k, v.ownBlock = some k → X.heap.size ≤ k) : Below X.heap.size X w' := hb.grown hg hb.size hv
theorem two_news (w : World) (u u' : Value) (t : TypeId) : ∀ (j : Nat) (v : Value), [u, u'][j]? = some v → (w.alloc (.cells #[u, u'] t)).cell? ((⟨w.heap.size, 0, none⟩ : Addr).add j) = some v := by
  intro j v hj
  have e : (⟨w.heap.size, 0, none⟩ : Addr).add j = ⟨w.heap.size, j, none⟩ := by unfold Addr.add; split <;> simp_all
  rw [e, cell_of_row _ w.heap.size j _ _ (0, 0) (heap_alloc_new w _)]
  simpa using hj
theorem ownsRow_keep {w w' : World} {base : Nat} {e : TypeId} {size n : Nat} {v : Value} {xs : List Value} (h : w.ownsRow base e size v n xs) (hb : Below w.heap.size w w') : w'.ownsRow base e size v n xs :=
  World.ownsRow.kept h (row := none) ⟨hb.os, hb.tape, hb.output, hb.size, fun k hk _ => hb.block k hk⟩ (by cases v.ownBlock <;> simp)
theorem total_rev (xss : List (List Int)) : total xss.reverse = total xss := by
  induction xss with
  | nil => rfl
  | cons x r ih => rw [List.reverse_cons, total_append, ih]; simp only [total]; omega
theorem one_at {v u : Value} {j : Nat} (h : [v][j]? = some u) : j = 0 ∧ u = v := by
  obtain ⟨hj, e⟩ := List.getElem?_eq_some_iff.1 h
  obtain rfl : j = 0 := by simp at hj; omega
  exact ⟨rfl, by simpa using e.symm⟩
theorem cell_far_ {w w' : World} {row : Option Nat} (hg : w.grownBy w' row) {a : Addr} {v : Value} (hc : w.cell? a = some v) (hne : row ≠ some a.block) : w'.cell? a = some v :=
  (World.cell?_of_block (hg.block _ (World.block_lt_of_cell? w _ hc) (fun e => hne e.symm))).trans hc
theorem lit_cell (w : World) (u : Value) (t : TypeId) : (w.alloc (.cells #[u] t)).cell? ⟨w.heap.size, 0, none⟩ = some u := cell_one_new w u t 0 u rfl
theorem sum_sumF (xs : List Int) : xs.sum = sumI xs := by
  induction xs with
  | nil => rfl
  | cons x r ih => rw [List.sum_cons, ih]; rfl

set_option maxRecDepth 100000 in
set_option maxHeartbeats 12800000 in
theorem walk_FnFactorGenus (A0 : Option Addr) (n0 c0 : Nat) (bs0 : List Int) (w : World) (h0 : RdB w A0 n0 bs0) (hm0 : n0 ≤ maxLen ∧ n0 ≤ c0) :
    Calls Try.prog 5 #[.slice A0 n0 c0] w fun e w' => e = .returned (.bool true) ∧ Below w.heap.size w w' := by
  have HB0_0 := Lib.hid h0; have hc0 := hm0.2; have hml0 := hm0.1; clear h0 hm0; unfold maxLen at hml0
  by_cases hbig0 : 1048576 < n0
  · have hd : decide ((1048576 : Int) < n0) = true := by simp; omega
    go_enter Try.func5, Try.ntmps5
    go_wp2
    go_ret
    exact ⟨rfl, Below.refl _ _⟩
  have hd0 : decide ((1048576 : Int) < n0) = false := by simp; omega
  have hnb0 : n0 ≤ 1048576 := by omega
  clear hbig0
  go_enter Try.func5, Try.ntmps5
  go_wp2_with fail
  refine (drawFactorGenus_any w A0 n0 c0 bs0 HB0_0.out hnb0 hc0).mono ?_
  rintro e w1 ⟨v, xss, rfl, o, hl8, hsh, b⟩
  obtain ⟨nt, hnt⟩ : ∃ nt, xss.length = nt := ⟨_, rfl⟩
  rw [hnt] at hl8
  obtain ⟨At, ct, rfl, hrd⟩ := o.form hnt
  have HRT := Lib.hid hrd; have HNT := Lib.hid hnt; have HTO : Hid (total xss ≤ 64) := by have := hsh.total; rw [Hid]; omega
  clear o hrd hsh hnt
  obtain ⟨r, hr⟩ : ∃ r, fgR xss = r := ⟨_, rfl⟩
  have hrr : (r != r) = false := by simp
  have hrr' : (r == r) = true := by simp
  have HR := Lib.hid hr; clear hr
  have HB := Lib.hid b; have hs := b.size; clear b
  go_wp2_with fail
  refine (impl_fgR w1 At ct nt xss HRT.out.rd (by omega) (by have := HTO.out; omega) HR.out).mono ?_
  rintro e w2 ⟨rfl, b⟩
  replace HRT := Lib.hid (HRT.out.below b)
  replace HB := Lib.hid (HB.out.trans (b.mono hs)); replace hs := HB.out.size
  clear b
  go_wp2_with fail
  refine (spec_fgR w2 At ct nt xss HRT.out.rd (by omega) (by have := HTO.out; omega) HR.out).mono ?_
  rintro e w3 ⟨rfl, b⟩
  replace HRT := Lib.hid (HRT.out.below b)
  replace HB := Lib.hid (HB.out.trans (b.mono hs)); replace hs := HB.out.size
  clear b
  by_cases hneg : r < 0
  · have hd : decide (r < 0) = true := by simpa using hneg
    go_wp2_with fail
    go_ret
    exact ⟨rfl, HB.out⟩
  have hd : decide (r < 0) = false := by simp; omega
  have HTY : Hid (tyB xss = true) := by
    rw [Hid]
    by_cases h : tyB xss = true
    · exact h
    · have := HR.out
      rw [fgR, if_neg h] at this
      omega
  have hok := TyOk_of HTY.out
  have h1n : 1 ≤ nt := by rw [← HNT.out]; exact hok.1
  have h6n : nt ≤ 6 := by rw [← HNT.out]; exact hok.2.1
  have hp0 := (hok.pair (j := 0) hok.1).1
  have hall := PtsS.of hok
  obtain ⟨s, hs0⟩ := Int.eq_ofNat_of_zero_le (show 0 ≤ sumI (row xss 0) by have := hp0.sum; omega)
  have hs16 : 1 ≤ s ∧ s ≤ 6 := by have := hp0.sum; omega
  rw [hs0] at hall
  have hfg := hall.fg (by rw [HNT.out]; exact h1n) (by rw [HNT.out]; exact h6n)
  rw [HR.out] at hfg
  have hsum : (row xss 0).sum = (s : Int) := by rw [← hs0]; exact sum_sumF _
  obtain ⟨LL, hLL⟩ : ∃ LL, ptsOf 7 s s = LL := ⟨_, rfl⟩
  obtain ⟨m, hm⟩ : ∃ m, LL.length = m := ⟨_, rfl⟩
  obtain ⟨z1, z2, z3, z4, z5⟩ := last_ones s (by omega) (by omega)
  rw [hLL] at z1 z2 z3 z4 z5
  rw [hm] at z1 z2 z3 z4 z5
  have hpa : paR (s : Int) = (true, LL) := by rw [paR, if_pos (by omega), ← hLL]; simp
  have hwf : (Lit.int .i64 (s : Int)).wf = true := WalkArith.wf_i64 (by omega)
  have HALL := Lib.hid hall; have HFG := Lib.hid hfg; have HP0 := Lib.hid hp0; have HSM := Lib.hid hsum; have HM := Lib.hid hm; have HPA := Lib.hid hpa; have HZ := Lib.hid (And.intro z1 (And.intro z2 z3))
  clear hok hp0 hall hs0 hfg hsum hLL hm hpa z1 z2 z3 hneg
  obtain ⟨adt, A00, n00, c00, rfl, hc0t, hl00, ho00⟩ := HRT.out.at_ (k := 0) h1n
  rw [Addr.add_zero'] at hc0t
  have HR00 : Hid (Rd w3 A00 n00 (row xss 0)) := ho00.rd hl00
  have hn00 : n00 ≤ 6 := by rw [← hl00]; exact HP0.out.len
  have HL00 : Hid ((row xss 0).length = n00) := hl00
  clear ho00 hl00
  go_wp2_with fail
  refine (sumB_any w3 A00 n00 c00 (row xss 0) HR00.out (by omega) (fun j hj => by have := HP0.out.le (j := j) (by rw [HL00.out]; exact hj); omega) HSM.out).mono ?_
  rintro e w4 ⟨rfl, b⟩
  clear HR00 hc0t
  replace HRT := Lib.hid (HRT.out.below b)
  replace HB := Lib.hid (HB.out.trans (b.mono hs)); replace hs := HB.out.size
  clear b
  obtain ⟨i1, hinf1, hy0, hy1, hy2⟩ := info_parts info_sliceT
  have hsub : IntKind.i64.wrap ((nt : Int) - 1) = (nt : Int) - 1 := IntWalk.i64_in _ (by omega)
  go_wp2_with fail
  clear hsub
  go_loopw [7, 8] (fun ov iv wr => ∃ (k q : Nat) (z : Int) (A : Option Addr) (c : Nat), k ≤ nt ∧ q + k = nt ∧ iv = .int .i64 z ∧ ov = .slice A q c ∧ Hid (z = (k : Int) - 1) ∧ Hid (RowO wr w4.heap.size (.slice A q c) (xss.drop k).reverse) ∧ Hid (Below w4.heap.size w4 wr)) (fun _ iv _ => (intOf iv + 1).toNat)
  case atStart => exact ⟨nt, 0, _, _, 0, Nat.le_refl _, by omega, rfl, rfl, rfl, by rw [Hid, List.drop_eq_nil_of_le (by rw [HNT.out]; exact Nat.le_refl _)]; exact RowO.empty (Nat.le_refl _), (Below.refl _ _).alloc (Nat.le_refl _) _⟩
  case round =>
    obtain ⟨k, q, z, A, c, hk, hq, rfl, rfl, hz, ho, hB⟩ := hrel
    have hbs := hB.out.size
    by_cases hk0 : 1 ≤ k
    · obtain ⟨j, hj⟩ : ∃ j, k = j + 1 := ⟨k - 1, by omega⟩
      obtain rfl : z = (j : Int) := by rw [hz.out, hj]; omega
      have hjn : j < nt := by omega
      have hq6 : q ≤ 6 := by omega
      obtain ⟨_, Aj, nj, cj', e, hcj, hlj, hoj⟩ := (HRT.out.below hB.out).at_ hjn
      simp only [Option.some.injEq] at e
      subst e
      have hdr : (xss.drop j).reverse = (xss.drop k).reverse ++ [xss.getD j []] := by
        rw [List.drop_eq_getElem_cons (by rw [HNT.out]; exact hjn), List.reverse_cons, hj]
        simp [List.getD, List.getElem?_eq_getElem (show j < xss.length by rw [HNT.out]; exact hjn)]
      have hlq : ((xss.drop k).reverse).length = q := by rw [List.length_reverse, List.length_drop, HNT.out]; omega
      obtain ⟨vs, hown, hrows⟩ := ho.out
      rw [hlq] at hown
      have HOW := Lib.hid hown; have HRW := Lib.hid hrows; have HOJ := Lib.hid hoj; have HDR := Lib.hid hdr; have HLQ := Lib.hid hlq; have HJ := Lib.hid hj
      have hjz : (0 : Int) ≤ (j : Int) := by omega
      clear hown hrows hoj hdr hlq hj hlj
      go_wp2_with (at_builtin; refine wpList_append_own _ rfl _ _ 28 rfl w4.heap.size 23 i1 (.slice none 0 0) 1 24 Try.underlying28 hinf1 hy0 hy1 hy2 rfl (by decide) (.slice A q c) _ _ rfl (HOW.out.alloc _) ⟨wr.heap.size, 0, none⟩ 1 1 [.slice Aj nj cj'] rfl rfl (cell_one_new _ _ _) (by intro u hu; simp at hu; subst hu; rfl) (by unfold maxLen; omega) (by omega) (by rw [World.size_alloc]; omega) ?_; intro v8 w8 hown1 hgrow1 _; have HN8 := Lib.hid hown1; have HG8 := Lib.hid hgrow1; clear hown1 hgrow1)
      have hal : Below wr.heap.size wr (wr.alloc (.cells #[.slice Aj nj cj'] 23)) := (Below.refl _ _).alloc (Nat.le_refl _) _
      have HO8 : Hid (RowO w8 w4.heap.size v8 (xss.drop j).reverse) := by
        have := RowO.added HLQ.out (World.ownsRow.alloc HOW.out _) (HRW.out.below hal) (.one (HOJ.out.below hal)) HN8.out rfl HG8.out
        rw [← HDR.out] at this
        exact this
      have HB8 : Hid (Below w4.heap.size w4 w8) := (hB.out.trans (hal.mono hbs)).grown HG8.out (by rw [World.size_alloc]; omega) (fun j hj => (ho.out.lt j hj).1)
      obtain ⟨A8, c8, rfl, -⟩ := HO8.out.form (n := q + 1) (by rw [List.length_reverse, List.length_drop, HNT.out]; have := HJ.out; omega)
      clear hal
      go_roundw
      case rel => exact ⟨j, q + 1, (j : Int) - 1, A8, c8, by omega, by have := HJ.out; omega, by go_num, rfl, rfl, HO8.out, HB8.out⟩
      case measure => simp [intOf] <;> omega
    · have hk00 : k = 0 := by omega
      have hzn : z < 0 := by rw [hz.out]; omega
      have hqn : q = nt := by omega
      have hbk : xss.reverse = (xss.drop k).reverse := by rw [hk00]; rfl
      have HBK : Hid (RowO wr w4.heap.size (.slice A q c) xss.reverse) := by rw [Hid, hbk]; exact ho.out
      obtain ⟨Ab, cb, eb, hrb⟩ := HBK.out.form (n := q) (by rw [List.length_reverse, HNT.out]; omega)
      simp only [Value.slice.injEq, true_and] at eb
      obtain ⟨rfl, rfl⟩ := eb
      have HRB := Lib.hid hrb
      clear hk00 hbk hrb hk0
      subst hqn
      clear HBK ho
      replace HRT := Lib.hid (HRT.out.below hB.out)
      replace HB := Lib.hid (HB.out.trans (hB.out.mono hs)); replace hs := HB.out.size
      have HW := hB; clear hB
      go_wp2_with fail
      refine (impl_paR wr s hwf HPA.out).mono ?_
      rintro e w5 ⟨v, rfl, o, b⟩
      obtain ⟨Al, cl, rfl, -⟩ := o.form HM.out
      have HRL := Lib.hid (o.rdo HM.out); clear o
      replace HRT := Lib.hid (HRT.out.below b)
      replace HRB := Lib.hid (HRB.out.below b)
      replace HB := Lib.hid (HB.out.trans (b.mono hs)); replace hs := HB.out.size
      replace HW := Lib.hid (HW.out.trans (b.mono HW.out.size))
      clear b
      obtain ⟨m1, hm1⟩ : ∃ m1, m - 1 = m1 := ⟨_, rfl⟩
      have hmm1 : m1 < m := by omega
      have hm1e : IntKind.i64.wrap ((m : Int) - 1) = (m1 : Int) := by rw [IntWalk.i64_in _ (by omega)]; omega
      obtain ⟨adl, Ae, ne, ce, rfl, hce, hne, hoe⟩ := HRL.out.at_ hmm1
      obtain ⟨ones, hones⟩ : ∃ ones, LL.getD m1 [] = ones := ⟨_, rfl⟩
      rw [hones] at hne hoe
      have HONE : Hid (pt ones = true ∧ sumI ones = s ∧ ones.length = s) := by have := HZ.out; rw [hm1, hones] at this; exact this
      have HOE := Lib.hid hoe; have HNE := Lib.hid hne; have HM1 := Lib.hid hm1
      obtain ⟨us, hul, hur, huc⟩ := HRT.out.news
      have HUL := Lib.hid hul; have HUR := Lib.hid hur; have HUC := Lib.hid huc
      clear hones hoe hne hm1 hul hur huc
      
      have hoA : (w5.alloc (.cells #[] 23)).ownsRow w5.heap.size 23 1 (.slice (some ⟨w5.heap.size, 0, none⟩) 0 0) 0 [] := World.ownsRow_lit w5 #[] 0 (Nat.le_refl _) (Nat.zero_le _) rfl
      have hoCA : ((w5.alloc (.cells #[.slice Ae ne ce] 23)).alloc (.cells #[] 23)).ownsRow w5.heap.size 23 1 (.slice (some ⟨w5.heap.size + 1, 0, none⟩) 0 0) 0 [] := by
        have := World.ownsRow_lit (base := w5.heap.size) (e := 23) (size := 1) (w5.alloc (.cells #[.slice Ae ne ce] 23)) #[] 0 (by simp) (Nat.zero_le _) rfl
        rwa [World.size_alloc] at this
      have HOA := Lib.hid hoA; have HOAC := Lib.hid (World.ownsRow.alloc hoA (.cells #[.slice Ae ne ce] 23)); have HOCA := Lib.hid hoCA
      have hcAC : ((w5.alloc (.cells #[] 23)).alloc (.cells #[.slice Ae ne ce] 23)).cell? ⟨w5.heap.size + 1, 0, none⟩ = some (.slice Ae ne ce) := by
        have := lit_cell (w5.alloc (.cells #[] 23)) (.slice Ae ne ce) 23
        rwa [World.size_alloc] at this
      have hcCA : ((w5.alloc (.cells #[.slice Ae ne ce] 23)).alloc (.cells #[] 23)).cell? ⟨w5.heap.size, 0, none⟩ = some (.slice Ae ne ce) :=
        (((Below.refl _ _).alloc (Nat.le_refl _) _ : Below (w5.alloc (.cells #[.slice Ae ne ce] 23)).heap.size (w5.alloc (.cells #[.slice Ae ne ce] 23)) _).cell (by simp)).trans (lit_cell w5 (.slice Ae ne ce) 23)
      have HCAC := Lib.hid hcAC; have HCCA := Lib.hid hcCA; have HCE := Lib.hid hce
      have hceA : (w5.alloc (.cells #[] 23)).cell? (adl.add m1) = some (.slice Ae ne ce) := ((Below.refl _ w5).alloc (Nat.le_refl _) _).cell (World.block_lt_of_cell? _ _ hce) |>.trans hce
      have HONEC : Hid (∀ u ∈ us, u.oneCell' = true) := fun u hu => by
        obtain ⟨i, hi, rfl⟩ := List.getElem_of_mem hu
        have := HUR.out.2 i (by rw [← HUR.out.1]; exact hi)
        obtain ⟨Ai, ci, e, -, -⟩ := this.form
        have e2 : us.getD i undef = us[i] := by simp [List.getD, List.getElem?_eq_getElem hi]
        rw [← e2, e]; rfl
      have hm10 : (0 : Int) ≤ (m1 : Int) := by omega
      have hm1m : (m1 : Int) < (m : Int) := by omega
      clear hoA hoCA hcAC hcCA
      go_upto_region 15 with (fail)
      go_cut [11] (fun lv wx => LongAt w5 (xss ++ [ones]) (q + 1) lv wx)
      case first =>
        go_region_law (first
          | (refine step_append_lies (o := ⟨some 66, _, _, _, _, _⟩) (hgd := rfl) (s := .tmp 58) (x := .tmp 65) (t := 28) (ho := rfl) (base := w5.heap.size) (e := 23) (i := i1) (z := .slice none 0 0) (size := 1) (bytes := 24) (ht := Try.underlying28) (hi := hinf1) (hz := hy0) (hsize := hy1) (hby := hy2) (hzs := rfl) (hsz := by decide) (v := (.slice (some ⟨g7, 0, none⟩) (0 + q) c7)) (n := (0 + q)) (xs := ([] ++ us)) (hs := by simp [Act.eval]) (hown := World.ownsRow.alloc HN7.out _) (ad := ⟨w7.heap.size, 0, none⟩) (m := 1) (c := 1) (news := [.slice Ae ne ce]) (hx := by simp [Act.eval]) (hl := rfl) (hnews := cell_one_new _ _ _) (h1 := (by intro u hu; simp at hu; subst hu; rfl)) (hm := by omega) (h63 := by unfold maxLen; omega) (hbytes := by omega) (hbase := (by have := HB7.out.size; first | omega | (rw [World.size_alloc]; omega))) (H := _) (hH := rfl) (h := ?_); intro g8 c8 w8 hown_ hgrow_ hat_ hlt_; have HN8 := Lib.hid hown_; have HB8 := Lib.hid (app_below (by first | exact HB7.out.alloc HB7.out.size _ | exact below_drewN (HB7.out.alloc HB7.out.size _) 1 | exact below_drewN (HB7.out.alloc HB7.out.size _) 2 | exact below_drewN (HB7.out.alloc HB7.out.size _) _) hgrow_ (fun k hk => (World.ownsRow.lt HN7.out k hk).1)); clear hown_ hgrow_ hat_ hlt_)
          | (refine step_append_lies (o := ⟨some 66, _, _, _, _, _⟩) (hgd := rfl) (s := .tmp 58) (x := .tmp 65) (t := 28) (ho := rfl) (base := w5.heap.size) (e := 23) (i := i1) (z := .slice none 0 0) (size := 1) (bytes := 24) (ht := Try.underlying28) (hi := hinf1) (hz := hy0) (hsize := hy1) (hby := hy2) (hzs := rfl) (hsz := by decide) (v := (.slice (some ⟨g7, 0, none⟩) (0 + q) c7)) (n := (0 + q)) (xs := ([] ++ us)) (hs := by simp [Act.eval]) (hown := HN7.out) (ad := ⟨w5.heap.size + 1, 0, none⟩) (m := 1) (c := 1) (news := [.slice Ae ne ce]) (hx := by simp [Act.eval]) (hl := rfl) (hnews := (fun j u hj => by obtain ⟨rfl, rfl⟩ : j = 0 ∧ u = .slice Ae ne ce := (one_at hj); exact HCB.out)) (h1 := (by intro u hu; simp at hu; subst hu; rfl)) (hm := by omega) (h63 := by unfold maxLen; omega) (hbytes := by omega) (hbase := (by have := HB7.out.size; first | omega | (rw [World.size_alloc]; omega))) (H := _) (hH := rfl) (h := ?_); intro g8 c8 w8 hown_ hgrow_ hat_ hlt_; have HN8 := Lib.hid hown_; have HB8 := Lib.hid (app_below (by first | exact HB7.out | exact below_drewN (HB7.out) 1 | exact below_drewN (HB7.out) 2 | exact below_drewN (HB7.out) _) hgrow_ (fun k hk => (World.ownsRow.lt HN7.out k hk).1)); clear hown_ hgrow_ hat_ hlt_)
          | (refine step_append_lies (o := ⟨some 66, _, _, _, _, _⟩) (hgd := rfl) (s := .tmp 58) (x := .tmp 65) (t := 28) (ho := rfl) (base := w5.heap.size) (e := 23) (i := i1) (z := .slice none 0 0) (size := 1) (bytes := 24) (ht := Try.underlying28) (hi := hinf1) (hz := hy0) (hsize := hy1) (hby := hy2) (hzs := rfl) (hsz := by decide) (v := (.slice (some ⟨g7, 0, none⟩) (0 + q) c7)) (n := (0 + q)) (xs := ([] ++ us)) (hs := by simp [Act.eval]) (hown := HN7.out) (ad := ⟨w5.heap.size, 0, none⟩) (m := 1) (c := 1) (news := [.slice Ae ne ce]) (hx := by simp [Act.eval]) (hl := rfl) (hnews := (fun j u hj => by obtain ⟨rfl, rfl⟩ : j = 0 ∧ u = .slice Ae ne ce := (one_at hj); exact HCB.out)) (h1 := (by intro u hu; simp at hu; subst hu; rfl)) (hm := by omega) (h63 := by unfold maxLen; omega) (hbytes := by omega) (hbase := (by have := HB7.out.size; first | omega | (rw [World.size_alloc]; omega))) (H := _) (hH := rfl) (h := ?_); intro g8 c8 w8 hown_ hgrow_ hat_ hlt_; have HN8 := Lib.hid hown_; have HB8 := Lib.hid (app_below (by first | exact HB7.out | exact below_drewN (HB7.out) 1 | exact below_drewN (HB7.out) 2 | exact below_drewN (HB7.out) _) hgrow_ (fun k hk => (World.ownsRow.lt HN7.out k hk).1)); clear hown_ hgrow_ hat_ hlt_)
          | (refine step_append_lies (o := ⟨some 58, _, _, _, _, _⟩) (hgd := rfl) (s := .tmp 56) (x := .tmp 57) (t := 28) (ho := rfl) (base := w5.heap.size) (e := 23) (i := i1) (z := .slice none 0 0) (size := 1) (bytes := 24) (ht := Try.underlying28) (hi := hinf1) (hz := hy0) (hsize := hy1) (hby := hy2) (hzs := rfl) (hsz := by decide) (v := (.slice (some ⟨w5.heap.size, 0, none⟩) 0 0)) (n := 0) (xs := []) (hs := by simp [Act.eval]) (hown := HOA.out) (ad := adt) (m := q) (c := ct) (news := us) (hx := by simp [Act.eval]) (hl := (by rw [HUL.out, Nat.mul_one])) (hnews := (fun j u hj => (HUC.out j u hj |> fun h => ((Below.refl _ w5).alloc (Nat.le_refl _) _).cell (World.block_lt_of_cell? _ _ h) |>.trans h))) (h1 := HONEC.out) (hm := by omega) (h63 := by unfold maxLen; omega) (hbytes := by omega) (hbase := (by simp <;> omega)) (H := _) (hH := rfl) (h := ?_); intro g7 c7 w7 hown_ hgrow_ hat_ hlt_; have HN7 := Lib.hid hown_; have HB7 := Lib.hid (app_below (by first | exact (Below.refl _ w5).alloc (Nat.le_refl _) _ | exact below_drewN ((Below.refl _ w5).alloc (Nat.le_refl _) _) 1 | exact below_drewN ((Below.refl _ w5).alloc (Nat.le_refl _) _) 2 | exact below_drewN ((Below.refl _ w5).alloc (Nat.le_refl _) _) _) hgrow_ (fun k hk => by cases hk; simp)); have c7l := (HB7.out.cell (World.block_lt_of_cell? _ _ HCE.out)).trans HCE.out; have hz7 : w5.heap.size + 1 ≤ w7.heap.size := (by have := hgrow_.size; simp at this; omega); clear hown_ hgrow_ hat_ hlt_)
          | (refine step_append_lies (o := ⟨some 58, _, _, _, _, _⟩) (hgd := rfl) (s := .tmp 56) (x := .tmp 57) (t := 28) (ho := rfl) (base := w5.heap.size) (e := 23) (i := i1) (z := .slice none 0 0) (size := 1) (bytes := 24) (ht := Try.underlying28) (hi := hinf1) (hz := hy0) (hsize := hy1) (hby := hy2) (hzs := rfl) (hsz := by decide) (v := (.slice (some ⟨w5.heap.size, 0, none⟩) 0 0)) (n := 0) (xs := []) (hs := by simp [Act.eval]) (hown := HOAC.out) (ad := adt) (m := q) (c := ct) (news := us) (hx := by simp [Act.eval]) (hl := (by rw [HUL.out, Nat.mul_one])) (hnews := (fun j u hj => (HUC.out j u hj |> fun h => (((Below.refl _ w5).alloc (Nat.le_refl _) _).alloc (by simp) _).cell (World.block_lt_of_cell? _ _ h) |>.trans h))) (h1 := HONEC.out) (hm := by omega) (h63 := by unfold maxLen; omega) (hbytes := by omega) (hbase := (by simp <;> omega)) (H := _) (hH := rfl) (h := ?_); intro g7 c7 w7 hown_ hgrow_ hat_ hlt_; have HN7 := Lib.hid hown_; have HB7 := Lib.hid (app_below (by first | exact ((Below.refl _ w5).alloc (Nat.le_refl _) _).alloc (by simp) _ | exact below_drewN (((Below.refl _ w5).alloc (Nat.le_refl _) _).alloc (by simp) _) 1 | exact below_drewN (((Below.refl _ w5).alloc (Nat.le_refl _) _).alloc (by simp) _) 2 | exact below_drewN (((Below.refl _ w5).alloc (Nat.le_refl _) _).alloc (by simp) _) _) hgrow_ (fun k hk => by cases hk; simp)); have c7l := (HB7.out.cell (World.block_lt_of_cell? _ _ HCE.out)).trans HCE.out; have hz7 : w5.heap.size + 1 ≤ w7.heap.size := (by have := hgrow_.size; simp at this; omega); have HCB := Lib.hid (cell_far_ hgrow_ HCAC.out (fun e => by have e2 : w5.heap.size = w5.heap.size + 1 := (by injection e); omega)); clear hown_ hgrow_ hat_ hlt_)
          | (refine step_append_lies (o := ⟨some 58, _, _, _, _, _⟩) (hgd := rfl) (s := .tmp 56) (x := .tmp 57) (t := 28) (ho := rfl) (base := w5.heap.size) (e := 23) (i := i1) (z := .slice none 0 0) (size := 1) (bytes := 24) (ht := Try.underlying28) (hi := hinf1) (hz := hy0) (hsize := hy1) (hby := hy2) (hzs := rfl) (hsz := by decide) (v := (.slice (some ⟨w5.heap.size + 1, 0, none⟩) 0 0)) (n := 0) (xs := []) (hs := by simp [Act.eval]) (hown := HOCA.out) (ad := adt) (m := q) (c := ct) (news := us) (hx := by simp [Act.eval]) (hl := (by rw [HUL.out, Nat.mul_one])) (hnews := (fun j u hj => (HUC.out j u hj |> fun h => (((Below.refl _ w5).alloc (Nat.le_refl _) _).alloc (by simp) _).cell (World.block_lt_of_cell? _ _ h) |>.trans h))) (h1 := HONEC.out) (hm := by omega) (h63 := by unfold maxLen; omega) (hbytes := by omega) (hbase := (by simp <;> omega)) (H := _) (hH := rfl) (h := ?_); intro g7 c7 w7 hown_ hgrow_ hat_ hlt_; have HN7 := Lib.hid hown_; have HB7 := Lib.hid (app_below (by first | exact ((Below.refl _ w5).alloc (Nat.le_refl _) _).alloc (by simp) _ | exact below_drewN (((Below.refl _ w5).alloc (Nat.le_refl _) _).alloc (by simp) _) 1 | exact below_drewN (((Below.refl _ w5).alloc (Nat.le_refl _) _).alloc (by simp) _) 2 | exact below_drewN (((Below.refl _ w5).alloc (Nat.le_refl _) _).alloc (by simp) _) _) hgrow_ (fun k hk => by cases hk; simp)); have c7l := (HB7.out.cell (World.block_lt_of_cell? _ _ HCE.out)).trans HCE.out; have hz7 : w5.heap.size + 1 ≤ w7.heap.size := (by have := hgrow_.size; simp at this; omega); have HCB := Lib.hid (cell_far_ hgrow_ HCCA.out (fun e => by have e2 : w5.heap.size + 1 = w5.heap.size := (by injection e); omega)); clear hown_ hgrow_ hat_ hlt_)
          | fail)
        all_goals
          have hro : LongAt w5 (xss ++ [ones]) (q + 1) (.slice (some ⟨g8, 0, none⟩) (q + 1) c8) w8 := by
            refine ⟨g8, c8, rfl, ⟨us ++ [.slice Ae ne ce], ?_, (HUR.out.below HB8.out).append (.one (HOE.out.below HB8.out))⟩, HB8.out⟩
            have h1 := HN8.out
            rw [Nat.zero_add, List.nil_append] at h1
            rw [List.length_append, HNT.out]
            exact h1
          have HRO := Lib.hid hro; clear hro
          go_wp2_with fail
          go_meet
          case rel => first | exact HRO.out | (have := HRO.out; simpa using this)
      case rest =>
        obtain ⟨gl, cl', rfl, hlo, hlb⟩ := hcut
        have HLO := Lib.hid hlo; have HLB := Lib.hid hlb
        have hzl := hlb.size
        have HRT2 := Lib.hid (HRT.out.below hlb); have HRB2 := Lib.hid (HRB.out.below hlb)
        obtain ⟨us2, hul2, hur2, huc2⟩ := HRT2.out.news
        have HUL2 := Lib.hid hul2; have HUR2 := Lib.hid hur2; have HUC2 := Lib.hid huc2
        have HONE2 : Hid (∀ u ∈ us2, u.oneCell' = true) := fun u hu => by
          obtain ⟨i, hi, rfl⟩ := List.getElem_of_mem hu
          have := HUR2.out.2 i (by rw [← HUR2.out.1]; exact hi)
          obtain ⟨Ai, ci, e, -, -⟩ := this.form
          have e2 : us2.getD i undef = us2[i] := by simp [List.getD, List.getElem?_eq_getElem hi]
          rw [← e2, e]; rfl
        obtain ⟨Y, hY⟩ : ∃ Y, wc.alloc (.cells #[] 23) = Y := ⟨_, rfl⟩
        have hbY : Below wc.heap.size wc Y := by rw [← hY]; exact (Below.refl _ _).alloc (Nat.le_refl _) _
        have HOY : Hid (Y.ownsRow wc.heap.size 23 1 (.slice (some ⟨wc.heap.size, 0, none⟩) 0 0) 0 []) := by rw [Hid, ← hY]; exact World.ownsRow_lit wc #[] 0 (Nat.le_refl _) (Nat.zero_le _) rfl
        have HBY := Lib.hid hbY
        obtain ⟨sw, hsw⟩ : ∃ sw, swapL s = sw := ⟨_, rfl⟩
        obtain ⟨nsw, hnsw⟩ : ∃ n, sw.length = n := ⟨_, rfl⟩
        have HSW := Lib.hid hsw; have HNSW := Lib.hid hnsw
        clear hul2 hur2 huc2 hlo hlb hbY hsw hnsw hm1e
        go_wp2_with (first
          | (have hchk := HS2.out; clear hchk; at_builtin; refine wpList_append_own _ rfl (.tmp 69) (.tmp 74) 28 rfl wc.heap.size 23 i1 (.slice none 0 0) 1 24 Try.underlying28 hinf1 hy0 hy1 hy2 rfl (by decide) (.slice (some ⟨g9, 0, none⟩) q c9) q us2 rfl (HO11.out.alloc _) ⟨w11.heap.size, 0, none⟩ 2 2 [.slice As1 nsw cs1, .slice As2 nsw cs2] rfl rfl (two_news _ _ _ _) (by intro u hu; simp at hu; rcases hu with rfl | rfl <;> rfl) (by unfold maxLen; omega) (by omega) (by rw [World.size_alloc]; have := HB11.out.size; omega) ?_; intro v12 w12 hown12 hgrow12 _; have HN12 := Lib.hid hown12; have HG12 := Lib.hid hgrow12; clear hown12 hgrow12)
          | (have hchk := HS1.out; clear hchk; go_at_call 27; refine (swapType_any s _ (by omega)).mono ?_; rintro e w11 ⟨v, rfl, o, b⟩; rw [HSW.out] at o; obtain ⟨As2, cs2, rfl, -, -⟩ := o.form' HNSW.out; have HS2 : Hid (Own w11 0 (.slice As2 nsw cs2) sw) := o.mono (Nat.zero_le _); have HS1' := Lib.hid (HS1.out.below b); have HO11 := Lib.hid (ownsRow_keep HO10.out b); have HB11 := Lib.hid (HB10.out.trans (b.mono HB10.out.size)); clear o b)
          | (have hchk := HO9.out; clear hchk; go_at_call 27; refine (swapType_any s _ (by omega)).mono ?_; rintro e w10 ⟨v, rfl, o, b⟩; rw [HSW.out] at o; obtain ⟨As1, cs1, rfl, -, -⟩ := o.form' HNSW.out; have HS1 : Hid (Own w10 0 (.slice As1 nsw cs1) sw) := o.mono (Nat.zero_le _); have HO10 := Lib.hid (ownsRow_keep HO9.out b); have HB10 := Lib.hid (HB9.out.trans (b.mono HB9.out.size)); clear o b)
          | (at_builtin; refine wpList_append_lies _ rfl (.tmp 67) (.tmp 68) 28 rfl wc.heap.size 23 i1 (.slice none 0 0) 1 24 Try.underlying28 hinf1 hy0 hy1 hy2 rfl (by decide) (.slice (some ⟨wc.heap.size, 0, none⟩) 0 0) 0 [] rfl HOY.out adt q ct us2 rfl (by rw [HUL2.out, Nat.mul_one]) (fun j u hj => (HBY.out.cell (World.block_lt_of_cell? _ _ (HUC2.out j u hj))).trans (HUC2.out j u hj)) HONE2.out (by omega) (by unfold maxLen; omega) (by omega) (by have := HBY.out.size; omega) _ rfl ?_; intro g9 c9 w9 hown9 hgrow9 _ _; simp only [Nat.zero_add, List.nil_append] at hown9 ⊢; have HO9 := Lib.hid hown9; have HB9 : Hid (Below wc.heap.size wc w9) := HBY.out.grown hgrow9 HBY.out.size (fun k hk => by cases hk; exact Nat.le_refl _); clear hown9 hgrow9))
        have hal12 : Below w11.heap.size w11 (w11.alloc (.cells #[.slice As1 nsw cs1, .slice As2 nsw cs2] 23)) := (Below.refl _ _).alloc (Nat.le_refl _) _
        have HB12 : Hid (Below wc.heap.size wc w12) := (HB11.out.trans (hal12.mono HB11.out.size)).grown HG12.out (by rw [World.size_alloc]; have := HB11.out.size; omega) (fun k hk => (World.ownsRow.lt HO11.out k hk).1)
        have htw : RowO w12 wc.heap.size v12 (xss ++ [sw, sw]) := by
          have hr1 : RowsV w11 us2 xss := by
            have hbb : Below wc.heap.size wc w11 := HB11.out
            exact HUR2.out.below hbb
          have h2 : RowsV w11 [.slice As1 nsw cs1, .slice As2 nsw cs2] [sw, sw] := RowsV.append (xss := [sw]) (yss := [sw]) (.one HS1'.out) (.one HS2.out)
          exact RowO.added HNT.out (World.ownsRow.alloc HO11.out _) (hr1.below hal12) (h2.below hal12) HN12.out rfl HG12.out
        obtain ⟨Aw, cw, rfl, hrw⟩ := htw.form (n := q + 2) (by rw [List.length_append, HNT.out]; rfl)
        have HRW := Lib.hid hrw
        have HRB3 := Lib.hid (HRB2.out.below HB12.out)
        obtain ⟨_, _, el, hrl⟩ := HLO.out.form (n := q + 1) (by rw [List.length_append, HNT.out]; rfl)
        simp only [Value.slice.injEq, true_and] at el
        obtain ⟨rfl, rfl⟩ := el
        have HRL3 := Lib.hid (hrl.below HB12.out)
        have HB0 : Hid (Below w.heap.size w w12) := (HB.out.trans (HLB.out.mono hs)).trans (HB12.out.mono (Nat.le_trans hs hzl))
        have hbackv : fgR xss.reverse = r := by
          have h1 : PtsS s xss.reverse := fun x hx => HALL.out x (List.mem_reverse.1 hx)
          rw [h1.fg (by rw [List.length_reverse, HNT.out]; omega) (by rw [List.length_reverse, HNT.out]; omega), gsum_reverse]
          exact HFG.out.symm
        have hlongv : q + 1 ≤ 6 → fgR (xss ++ [ones]) = r := fun h => by
          have h1 : PtsS s (xss ++ [ones]) := HALL.out.append fun x hx => by rw [List.mem_singleton.1 hx]; exact ⟨HONE.out.1, HONE.out.2.1⟩
          rw [h1.fg (by rw [List.length_append, HNT.out]; simp) (by rw [List.length_append, HNT.out]; exact h), gsum_append, HFG.out]
          simp only [gsum, HONE.out.2.2]
          congr 1; omega
        have htwov : q + 2 ≤ 6 → 2 ≤ s → fgR (xss ++ [sw, sw]) = r + 1 := fun h h2 => by
          obtain ⟨y1, y2, y3⟩ := swap_ok s (by omega) h2
          rw [HSW.out] at y1 y2 y3
          have h1 : PtsS s (xss ++ [sw, sw]) := HALL.out.append fun x hx => by
            have : x = sw := by simpa using hx
            rw [this]; exact ⟨y1, y2⟩
          rw [h1.fg (by rw [List.length_append, HNT.out]; simp) (by rw [List.length_append, HNT.out]; exact h), gsum_append]
          have e : gsum (s : Int) [sw, sw] = 2 := by simp only [gsum]; omega
          rw [e, HFG.out, ← half_more (by rw [← HFG.out]; simpa using hd)]
          congr 1; omega
        have hr100 : r ≤ 100 := by
          have h1 := (twi_in (TyOk_of HTY.out) xss.length (Nat.le_refl _)).2
          rw [HNT.out] at h1
          have h2 := HR.out
          rw [fgR, if_pos HTY.out, HNT.out] at h2
          rw [← h2]
          unfold halfI
          split
          · omega
          · split <;> omega
        have hr0 : 0 ≤ r := by simpa using hd
        have HBV := Lib.hid hbackv; have HLV := Lib.hid hlongv; have HTV := Lib.hid htwov
        have HTB : Hid (total xss.reverse ≤ 1000 ∧ total (xss ++ [ones]) ≤ 1000 ∧ total (xss ++ [sw, sw]) ≤ 1000) := by
          have h1 := HTO.out
          have h2 := HONE.out.2.2
          have h3 : sw.length ≤ 8 := by rw [← HSW.out]; simp [swapL]; omega
          refine ⟨by rw [total_rev]; omega, by rw [total_append]; simp only [total]; omega, by rw [total_append]; simp only [total]; omega⟩
        have hrr1 : (r + 1 == r + 1) = true := by simp
        clear hal12 htw hrw hrl hbackv hlongv htwov
        refine (impl_fgR w12 A c q xss.reverse HRB3.out.rd (by omega) (by have := HTB.out.1; omega) HBV.out).mono ?_
        rintro e w13 ⟨rfl, b⟩
        have HB13 := Lib.hid (HB0.out.trans (b.mono HB0.out.size)); have HRL4 := Lib.hid (HRL3.out.below b); have HRW4 := Lib.hid (HRW.out.below b)
        clear b
        by_cases h6 : 6 ≤ q
        · go_wp2_with fail
          go_ret
          exact ⟨rfl, HB13.out⟩
        go_wp2_with fail
        refine (impl_fgR w13 (some ⟨gl, 0, none⟩) cl' (q + 1) (xss ++ [ones]) HRL4.out.rd (by omega) (by have := HTB.out.2.1; omega) (HLV.out (by omega))).mono ?_
        rintro e w14 ⟨rfl, b⟩
        have HB14 := Lib.hid (HB13.out.trans (b.mono HB13.out.size)); have HRW5 := Lib.hid (HRW4.out.below b)
        clear b
        by_cases h5 : 5 ≤ q
        · go_wp2_with fail
          go_ret
          exact ⟨rfl, HB14.out⟩
        by_cases hs2 : s < 2
        · go_wp2_with fail
          go_ret
          exact ⟨rfl, HB14.out⟩
        go_wp2_with fail
        refine (impl_fgR w14 Aw cw (q + 2) (xss ++ [sw, sw]) HRW5.out.rd (by omega) (by have := HTB.out.2.2; omega) (HTV.out (by omega) (by omega))).mono ?_
        rintro e w15 ⟨rfl, b⟩
        have HB15 := Lib.hid (HB14.out.trans (b.mono HB14.out.size))
        clear b
        go_wp2_with fail
        go_ret
        exact ⟨rfl, HB15.out⟩

end Go.Proofs.Ytkbdbkoeahihiaa
