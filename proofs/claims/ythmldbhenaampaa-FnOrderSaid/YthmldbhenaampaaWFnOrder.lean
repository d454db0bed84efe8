/-
  FnOrder: the walk of the law.
-/
import Derived.Test.YthmldbhenaampaaDraw3
import Derived.Test.YthmldbhenaampaaOrdBound
import Derived.Test.YthmldbhenaampaaImplOrd2
namespace Go.Proofs.Ythmldbhenaampaa
open Go.RowKit

set_option maxHeartbeats 400000 in
theorem sameInts_any (A A' : Option Addr) (n m c c' : Nat) (xs ys : List Int) (w : World) (h : Rd w A n xs) (h' : Rd w A' m ys) (hn : n ≤ maxLen) (hm : m ≤ maxLen) :
    Calls Try.prog 20 #[.slice A n c, .slice A' m c'] w fun e w' => e = .returned (.bool (eqB xs ys)) ∧ ∃ k, w' = w.drewN k := by
  unfold maxLen at hn hm
  have hxl := h.1
  have hyl := h'.1
  by_cases hnm : n = m
  · subst hnm
    have H := Lib.hid h; have H' := Lib.hid h'; clear h h'
    have Hx := Lib.hid hxl; have Hy := Lib.hid hyl; clear hxl hyl
    have ht : (((n : Nat) : Int) != n) = false := by simp
    go_enter Try.func20, Try.ntmps20
    go_wp2
    go_loopw [5] (fun i wr => ∃ k q : Nat, k ≤ n ∧ i = .int .i64 k ∧ wr = w.drewN q ∧ Hid (∀ j, j < k → gi xs j = gi ys j)) (fun i _ => n - (intOf i).toNat)
    case atStart => exact ⟨0, 0, Nat.zero_le _, rfl, rfl, fun j hj => absurd hj (by omega)⟩
    case round =>
      obtain ⟨k, q, hk, rfl, rfl, hall⟩ := hrel
      by_cases hlt : k < n
      · obtain ⟨ad, rfl, hc⟩ := H.out.at_ hlt
        obtain ⟨ad', rfl, hc'⟩ := H'.out.at_ hlt
        by_cases he : gi xs k = gi ys k
        · have he' : (gi xs k != gi ys k) = false := by simp [he]
          have HE := Lib.hid he; clear he
          go_wp2
          go_quiet (fail)
          go_wp2
          go_roundw
          case rel => exact ⟨k + 1, q + _, by omega, by go_num, rfl, fun j hj => by
            by_cases e : j = k
            · subst e; exact HE.out
            · exact hall.out j (by omega)⟩
          case measure => simp [intOf]; omega
        · have he' : (gi xs k != gi ys k) = true := by simp [he]
          have HE := Lib.hid he; clear he
          go_wp2
          go_quiet (fail)
          go_wp2
          go_ret
          exact ⟨ret_bool (by
            symm
            simp only [eqB, decide_eq_false_iff_not]
            intro e; exact HE.out (by rw [e])), q + _, World.drewN_drewN _ _ _⟩
      · go_wp2
        go_ret
        exact ⟨ret_bool (eqB_true (eq_of_gi (by rw [Hx.out, Hy.out]) (fun j hj => hall.out j (by rw [Hx.out] at hj; omega)))).symm, _, rfl⟩
  · have ht : (((n : Nat) : Int) != m) = true := by simp; omega
    have hne : eqB xs ys = false := by
      simp only [eqB, decide_eq_false_iff_not]
      intro e; apply hnm; rw [← hxl, ← hyl, e]
    have Hx := Lib.hid hne; clear hne hxl hyl h h'
    go_enter Try.func20, Try.ntmps20
    go_wp2
    go_ret
    exact ⟨ret_bool Hx.out.symm, 0, rfl⟩

def allB (ks : List Int) (j : Nat) : Bool := ks.all fun k => (j : Int).tmod k == 0
theorem allB_succ {ks : List Int} {i : Nat} (hi : i < ks.length) (j : Nat) : allB (ks.take (i + 1)) j = (allB (ks.take i) j && ((j : Int).tmod (gi ks i) == 0)) := by
  have e : ks.take (i + 1) = ks.take i ++ [gi ks i] := by
    rw [List.take_succ_eq_append_getElem hi, gi_eq hi]
  rw [e, allB, List.all_append]
  simp [allB]
theorem allB_iff {p : List Int} (hp : Vld p) (j : Nat) (h1 : 1 ≤ j) (h2 : j ≤ lcmL (cyclesL p)) : allB (typeL p) j = ((j : Int) == (lcmL (cyclesL p) : Int)) := by
  rw [Bool.eq_iff_iff]
  simp only [allB, List.all_eq_true, beq_iff_eq]
  rw [all_div_iff hp j h1 h2]
  omega
theorem type_pos {p : List Int} (hp : Vld p) {i : Nat} (hi : i < (typeL p).length) : 1 ≤ gi (typeL p) i := by
  have hm : gi (typeL p) i ∈ typeL p := by rw [gi_eq hi]; exact List.getElem_mem hi
  obtain ⟨c, hc, e⟩ := (mem_type hp _).1 hm
  have := ((cyclesL_spec hp).1 c hc).pos
  omega

set_option maxRecDepth 100000 in
set_option maxHeartbeats 4000000 in
theorem walk_FnOrder (A : Option Addr) (n c : Nat) (bs : List Int) (w : World) (h : RdB w A n bs) (hm : n ≤ maxLen ∧ n ≤ c) :
    Calls Try.prog 3 #[.slice A n c] w fun e w' => e = .returned (.bool true) ∧ Below w.heap.size w w' := by
  have HB0 := Lib.hid h
  have hc := hm.2
  clear h hm
  by_cases hbig : 1048576 < n
  · have hd : decide ((1048576 : Int) < n) = true := by simp; omega
    go_enter Try.func3, Try.ntmps3
    go_wp2
    go_ret
    exact ⟨rfl, Below.refl _ _⟩
  have hd : decide ((1048576 : Int) < n) = false := by simp; omega
  have hnb : n ≤ 1048576 := by omega
  go_enter Try.func3, Try.ntmps3
  go_wp2_with fail
  refine (drawOrder_any w A n c bs HB0.out hnb hc).mono ?_
  rintro e w1 ⟨v, p, rfl, o, hpl, b⟩
  obtain ⟨N, hN⟩ : ∃ N, p.length = N := ⟨_, rfl⟩
  rw [hN] at hpl
  obtain ⟨Ap, cp, rfl, -, -⟩ := o.form' hN
  have HO1 := Lib.hid o; have HB1 := Lib.hid b; have HN := Lib.hid hN
  have hs1 := b.size
  clear o b hN HB0
  have HR1 := Lib.hid (HO1.out.rd HN.out)
  obtain ⟨r, hr⟩ : ∃ r, ordR p = r := ⟨_, rfl⟩
  have HRR := Lib.hid hr; clear hr
  go_wp2_with fail
  refine (impl_ordR w1 Ap cp N p HR1.out (by omega) HRR.out).mono ?_
  rintro e w2 ⟨rfl, b⟩
  have HR2 := Lib.hid (HR1.out.below b)
  have HB2 := Lib.hid (HB1.out.trans (b.mono hs1))
  have hs2 := HB2.out.size
  clear b HO1
  go_wp2_with fail
  refine (spec_ordR w2 Ap cp N p HR2.out (by omega) HRR.out).mono ?_
  rintro e w3 ⟨rfl, b⟩
  have HR3 := Lib.hid (HR2.out.below b)
  have HB3 := Lib.hid (HB2.out.trans (b.mono hs2))
  have hs3 := HB3.out.size
  clear b
  have hself : (r != r) = false := by simp
  have hself2 : (r == r) = true := by simp
  by_cases hv : vld p = true
  · have hrr : r = (lcmL (cyclesL p) : Int) := by have := HRR.out; rw [ordR, if_pos hv] at this; exact this.symm
    have HV := Lib.hid (Vld_of hv)
    obtain ⟨M, hM⟩ : ∃ M, lcmL (cyclesL p) = M := ⟨_, rfl⟩
    rw [hM] at hrr
    subst hrr
    have hM81 : M ≤ 81 := by rw [← hM]; exact ord_le81 HV.out
    have hM1 : 1 ≤ M := by rw [← hM]; exact ord_pos HV.out
    have HM := Lib.hid hM; clear hM
    have hneg : decide ((M : Int) < 0) = false := by simp
    go_wp2_with fail
    refine (impl_typeR w3 Ap cp N p HR3.out (by omega) (ok := true) (ys := typeL p) (by rw [typeR, if_pos hv])).mono ?_
    rintro e w4 ⟨v, rfl, o, b⟩
    obtain ⟨T, hT⟩ : ∃ T, (typeL p).length = T := ⟨_, rfl⟩
    obtain ⟨At, ct, rfl, -, -⟩ := o.form' hT
    have hT12 : T ≤ 1000 := by
      have h1 := typeL_len HV.out
      have h2 := cyclesL_len (p := p)
      rw [HN.out] at h2
      omega
    have HO4 := Lib.hid o
    have HR4 := Lib.hid (HR3.out.below b)
    have HB4 := Lib.hid (HB3.out.trans (b.mono hs3))
    have hs4 := HB4.out.size
    have HT := Lib.hid hT; clear o b hT
    go_wp2_with fail
    refine (impl_powR w4 Ap cp N p HR4.out (by omega) (M : Int) (by simp [Lit.wf, IntKind.min, IntKind.max, IntKind.bits, IntKind.signed]; omega) (ok := true) (ys := sameL N) (by rw [powR, if_pos ⟨hv, by omega, by omega⟩, ← HM.out, pow_ord HV.out, HN.out]; rfl)).mono ?_
    rintro e w5 ⟨v, rfl, o, b⟩
    have hl5 : (sameL N).length = N := by rw [sameL, tab_len]
    obtain ⟨Ax, cx, rfl, -, -⟩ := o.form' hl5
    have HT5 := Lib.hid ((HO4.out.below b).rd HT.out)
    have HX5 := Lib.hid (o.rd hl5)
    have HR5 := Lib.hid (HR4.out.below b)
    have HB5 := Lib.hid (HB4.out.trans (b.mono hs4))
    clear o b
    have hs5 := HB5.out.size
    go_wp2_with fail
    clear HO4 HR4 HB4 HR3 HB3 HR2 HB2 HR1 HB1
    go_loopw [10] (fun nv wr => ∃ j q : Nat, nv = .int .i64 j ∧ 1 ≤ j ∧ j ≤ M + 1 ∧ wr = w5.drewN q) (fun nv _ => M + 1 - (intOf nv).toNat)
    case atStart => exact ⟨1, 0, rfl, by omega, by omega, rfl⟩
    case round =>
      obtain ⟨j, q, rfl, hj1, hj2, rfl⟩ := hrel
      by_cases hjM : j ≤ M
      · have hjd : decide (j ≤ M) = true := by simpa using hjM
        go_wp2_with fail
        go_loopw [11, 12] (fun av iv wr' => ∃ i q' : Nat, iv = .int .i64 i ∧ i ≤ T ∧ av = .bool (allB ((typeL p).take i) j) ∧ wr' = w5.drewN q') (fun _ iv _ => T - (intOf iv).toNat)
        case atStart => exact ⟨0, q, rfl, by omega, rfl, rfl⟩
        case round =>
          obtain ⟨i, q', rfl, hi, rfl, rfl⟩ := hrel
          by_cases hiT : i < T
          · have hsc := allB_succ (ks := typeL p) (i := i) (by rw [HT.out]; exact hiT) j
            have hpos := type_pos HV.out (i := i) (by rw [HT.out]; exact hiT)
            obtain ⟨ad, rfl, hcl⟩ := HT5.out.at_ hiT
            obtain ⟨kk, hkk⟩ : ∃ kk, gi (typeL p) i = kk := ⟨_, rfl⟩
            rw [hkk] at hsc hpos hcl
            have htm : (j : Int).tmod kk = (j : Int) % kk := Int.tmod_eq_emod_of_nonneg (by omega)
            rw [htm] at hsc
            have hk0 : ¬ kk = 0 := by omega
            have hk0' : (kk == 0) = false := by simp; omega
            have HSC := Lib.hid hsc; clear hsc
            obtain ⟨f, hf⟩ : ∃ f, allB ((typeL p).take i) j = f := ⟨_, rfl⟩
            have HF := Lib.hid hf
            rw [hf]
            clear hf
            cases f with
            | false =>
              go_wp2
              go_roundw
              case rel => exact ⟨i + 1, q', by go_num, by omega, by rw [HSC.out, HF.out]; rfl, rfl⟩
              case measure => simp [intOf]; omega
            | true =>
              go_wp2
              go_roundw
              case rel => exact ⟨i + 1, q', by go_num, by omega, by rw [HSC.out, HF.out]; rfl, rfl⟩
              case measure => simp [intOf]; omega
          · have hiT' : i = T := by omega
            subst hiT'
            have hall : allB ((typeL p).take i) j = ((j : Int) == (M : Int)) := by
              rw [← HT.out, List.take_length, ← HM.out]
              exact allB_iff HV.out j hj1 (by rw [HM.out]; exact hjM)
            rw [hall]
            obtain ⟨f, hf⟩ : ∃ f, ((j : Int) == (M : Int)) = f := ⟨_, rfl⟩
            have hff : (f != f) = false := by simp
            go_wp2
            go_roundw
            case rel => exact ⟨j + 1, q', by go_num, by omega, by omega, rfl⟩
            case measure => simp [intOf]; omega
      · have hjd : decide (j ≤ M) = false := by simpa using hjM
        go_wp2_with fail
        refine (stayOf_any N (w5.drewN q) (by omega)).mono ?_
        rintro e w6 ⟨v, rfl, o, b⟩
        have hl5 : (sameL N).length = N := by rw [sameL, tab_len]
        obtain ⟨Ay, cy, rfl, -, -⟩ := o.form' hl5
        have HY := Lib.hid (o.rd hl5)
        have HX := Lib.hid ((Rd.drewN HX5.out q).below b)
        have HB6 : Hid (Below w.heap.size w w6) := (below_drewN HB5.out q).trans (b.mono hs5)
        clear o b
        go_wp2_with fail
        refine (sameInts_any Ax Ay N N cx cy (sameL N) (sameL N) w6 HX.out HY.out (by unfold maxLen; omega) (by unfold maxLen; omega)).mono ?_
        rintro e w7 ⟨rfl, d, rfl⟩
        rw [eqB_refl]
        go_wp2_with fail
        go_ret
        exact ⟨rfl, below_drewN HB6.out d⟩
  · have hrr : r = -1 := by have := HRR.out; rw [ordR, if_neg hv] at this; exact this.symm
    subst hrr
    go_wp2
    go_ret
    exact ⟨rfl, HB3.out⟩

end Go.Proofs.Ythmldbhenaampaa
