/-
  FnGluingAll: the walk of the law.
-/
import Derived.Test.YtolbcdhkjhbepaaDrawG
import Derived.Test.YtolbcdhkjhbepaaGlQ
import Derived.Test.YtolbcdhkjhbepaaGRun
import Derived.Test.YtolbcdhkjhbepaaLists
import Derived.Test.YtolbcdhkjhbepaaGlA
namespace Go.Proofs.Ytolbcdhkjhbepaa
open Go.RowKit
set_option linter.unusedVariables false

theorem RdSS.below {w w' : World} {A : Option Addr} {n : Nat} {xss : List (List Int)} (h : RdSS w A n xss) (hb : Below w.heap.size w w') : RdSS w' A n xss :=
  ⟨h.1, fun hn => by
    obtain ⟨ad, e, hc⟩ := h.2 hn
    refine ⟨ad, e, fun j hj => ?_⟩
    obtain ⟨Aj, cj, h1, h2, h3⟩ := hc j hj
    exact ⟨Aj, cj, (hb.cell (World.block_lt_of_cell? w _ h1)).trans h1, h2.below hb, h3⟩⟩
def rowG (n i : Nat) : List Int := (allG n).getD i []
/-- The first place where two lists differ. -/
def dfi (a b : List Int) : Nat := (List.range a.length).findIdx fun k => gi a k != gi b k
def ascB (n i : Nat) : Bool := decide (dfi (rowG n (i + 1)) (rowG n i) < 2 * n) && ((List.range (dfi (rowG n (i + 1)) (rowG n i))).all fun j => gi (rowG n (i + 1)) j == gi (rowG n i) j) && decide (gi (rowG n i) (dfi (rowG n (i + 1)) (rowG n i)) < gi (rowG n (i + 1)) (dfi (rowG n (i + 1)) (rowG n i)))
theorem asc_all : ∀ n, n < 4 → 1 ≤ n → (List.range ((allG n).length - 1)).all (ascB n) = true := by decide +kernel
theorem asc_facts {n i : Nat} (hn : 1 ≤ n) (h3 : n ≤ 3) (hi : i + 1 < (allG n).length) : dfi (rowG n (i + 1)) (rowG n i) < 2 * n ∧ (∀ j, j < dfi (rowG n (i + 1)) (rowG n i) → gi (rowG n (i + 1)) j = gi (rowG n i) j) ∧ gi (rowG n i) (dfi (rowG n (i + 1)) (rowG n i)) < gi (rowG n (i + 1)) (dfi (rowG n (i + 1)) (rowG n i)) := by
  have h := List.all_eq_true.1 (asc_all n (by omega) hn) i (List.mem_range.2 (by omega))
  simp only [ascB, Bool.and_eq_true, decide_eq_true_eq, List.all_eq_true, List.mem_range, beq_iff_eq] at h
  exact ⟨h.1.1, h.1.2, h.2⟩
theorem sum_facts : ∀ n, n < 4 → 1 ≤ n → (((allG n).length : Int) == wrap64 (grunF n 0 + grunF n 1)) = true := by decide +kernel
theorem row_in {n i : Nat} (hn : 1 ≤ n) (h3 : n ≤ 3) (hi : i < (allG n).length) : IsG (rowG n i) ∧ (rowG n i).length = 2 * n := by
  have h : rowG n i ∈ allG n := by rw [rowG, List.getD_eq_getElem?_getD, List.getElem?_eq_getElem hi]; exact List.getElem_mem _
  exact (allG_iff hn (by omega) _).1 h
def fbG (n : Nat) (x : List Int) : Nat → Bool
  | 0 => false
  | k + 1 => fbG n x k || eqB (rowG n k) x
theorem fbG_of {n : Nat} {x : List Int} {j : Nat} (h : eqB (rowG n j) x = true) : ∀ k, j < k → fbG n x k = true
  | 0, h0 => absurd h0 (by omega)
  | k + 1, h0 => by
    unfold fbG
    by_cases e : j = k
    · subst e; rw [h]; simp
    · rw [fbG_of h k (by omega)]; rfl
theorem found_all {n i : Nat} (hn : 1 ≤ n) (h3 : n ≤ 3) (hi : i < (allG n).length) : fbG n (turnG (rowG n i)) (allG n).length = true := by
  obtain ⟨h1, h2⟩ := row_in hn h3 hi
  have h : turnG (rowG n i) ∈ allG n := (allG_iff hn (by omega) _).2 ⟨turnG_isG h1, by rw [turnG_len]; exact h2⟩
  obtain ⟨j, hj, e⟩ := List.mem_iff_getElem.1 h
  refine fbG_of (j := j) ?_ _ hj
  have e2 : rowG n j = turnG (rowG n i) := by rw [rowG, List.getD_eq_getElem?_getD, List.getElem?_eq_getElem hj]; exact e
  rw [e2]; exact eqB_refl _

set_option maxRecDepth 20000 in
set_option maxHeartbeats 3200000 in
theorem walk_FnGluingAll (A : Option Addr) (n c : Nat) (bs : List Int) (w : World) (h : RdB w A n bs) (hm : n ≤ maxLen ∧ n ≤ c) :
    Calls Try.prog 9 #[.slice A n c] w fun e w' => e = .returned (.bool true) ∧ Below w.heap.size w w' := by
  have HB0 := Lib.hid h
  have hc := hm.2
  clear h hm
  by_cases hbig : 1048576 < n
  · have hd : decide ((1048576 : Int) < n) = true := by simp; omega
    go_enter Try.func9, Try.ntmps9
    go_wp2
    go_ret
    exact ⟨rfl, Below.refl _ _⟩
  have hd : decide ((1048576 : Int) < n) = false := by simp; omega
  have hnb : n ≤ 1048576 := by omega
  go_enter Try.func9, Try.ntmps9
  go_wp2_with fail
  refine (drawGAll_any w A n c bs HB0.out hnb hc).mono ?_
  rintro x w1 ⟨e, rfl, h1, b1⟩
  have HB1 := Lib.hid b1; clear b1 hbig hc HB0 hd hnb
  have hw : (Lit.int .i64 e).wf = true := wf_far h1
  by_cases hv : 1 ≤ e ∧ e ≤ 3
  · obtain ⟨n, rfl⟩ : ∃ k : Nat, e = k := ⟨e.toNat, by omega⟩
    have hn1 : 1 ≤ n := by omega
    have hn3 : n ≤ 3 := by omega
    have HGR : Hid (gallR (n : Int) = (true, allG n)) := by rw [Hid, gallR, if_pos hv, Int.toNat_natCast]
    obtain ⟨m, hm⟩ : ∃ m, (allG n).length = m := ⟨_, rfl⟩
    have hm100 : m ≤ 100 := by rw [← hm]; exact (allG_len n (by omega) hn1).1
    have HM := Lib.hid hm
    obtain ⟨r0, hr0⟩ : ∃ r, grunF n 0 = r := ⟨_, rfl⟩
    obtain ⟨r1, hr1⟩ : ∃ r, grunF n 1 = r := ⟨_, rfl⟩
    have HSUM : Hid (((m : Int) == wrap64 (r0 + r1)) = true) := by rw [Hid, ← hm, ← hr0, ← hr1]; exact sum_facts n (by omega) hn1
    have HR0 := Lib.hid hr0; have HR1 := Lib.hid hr1
    have HROW : Hid (∀ i, i < m → IsG (rowG n i) ∧ (rowG n i).length = 2 * n) := fun i hi => row_in hn1 hn3 (by rw [hm]; exact hi)
    have HFND : Hid (∀ i, i < m → fbG n (turnG (rowG n i)) m = true) := fun i hi => by have := found_all hn1 hn3 (i := i) (by rw [hm]; exact hi); rwa [hm] at this
    have HASC : Hid (∀ i, i + 1 < m → dfi (rowG n (i + 1)) (rowG n i) < 2 * n ∧ (∀ j, j < dfi (rowG n (i + 1)) (rowG n i) → gi (rowG n (i + 1)) j = gi (rowG n i) j) ∧ gi (rowG n i) (dfi (rowG n (i + 1)) (rowG n i)) < gi (rowG n (i + 1)) (dfi (rowG n (i + 1)) (rowG n i))) := fun i hi => asc_facts hn1 hn3 (by rw [hm]; exact hi)
    clear hv h1 hm hr0 hr1
    go_wp2_with fail
    refine (impl_gallR w1 n hw HGR.out).mono ?_
    rintro x w2 ⟨v, rfl, o, b⟩
    obtain ⟨A2, c2, rfl, -⟩ := o.form HM.out
    have HRD2 := Lib.hid (o.rd HM.out); have HB2 := Lib.hid (HB1.out.trans (b.mono HB1.out.size)); clear o b
    go_wp2_with fail
    refine (spec_gallR w2 n hw HGR.out).mono ?_
    rintro x w3 ⟨v, rfl, o, b⟩
    obtain ⟨A3, c3, rfl, -⟩ := o.form HM.out
    have HRD3 := Lib.hid (o.rd HM.out); have HB3 := Lib.hid (HB2.out.trans (b.mono HB2.out.size))
    have HRD2' := Lib.hid (HRD2.out.below b); clear o b HRD2
    go_wp2_with fail
    refine (sameLists_same A2 A3 m c2 c3 (allG n) w3 HRD2'.out HRD3.out (by omega)).mono ?_
    rintro x w4 ⟨rfl, b⟩
    have HRD4 := Lib.hid (HRD2'.out.below b); have HB4 := Lib.hid (HB3.out.trans (b.mono HB3.out.size)); clear b HRD2' HRD3
    go_wp2_with fail
    refine (impl_grun w4 n 0 hw rfl HR0.out).mono ?_
    rintro x w5 ⟨rfl, b⟩
    have HRD5 := Lib.hid (HRD4.out.below b); have HB5 := Lib.hid (HB4.out.trans (b.mono HB4.out.size)); clear b HRD4
    go_wp2_with fail
    refine (impl_grun w5 n 1 hw rfl HR1.out).mono ?_
    rintro x w6 ⟨rfl, b⟩
    have HRD6 := Lib.hid (HRD5.out.below b); have HB6 := Lib.hid (HB5.out.trans (b.mono HB5.out.size)); clear b HRD5
    go_wp2_with fail
    go_loopw [9, 10, 11, 12, 13, 14] (fun iv tv pv fv kv lv wr => ∃ (i : Nat) (z1 z2 z3 z4 z5 : Value), tv = z1 ∧ pv = z2 ∧ fv = z3 ∧ kv = z4 ∧ lv = z5 ∧ i ≤ m ∧ iv = .int .i64 i ∧ Hid (RdSS wr A2 m (allG n)) ∧ Hid (Below w.heap.size w wr)) (fun iv _ _ _ _ _ _ => m - (intOf iv).toNat)
    case atStart => exact ⟨0, _, _, _, _, _, rfl, rfl, rfl, rfl, rfl, Nat.zero_le _, rfl, HRD6, HB6⟩
    case round =>
      obtain ⟨i, z1, z2, z3, z4, z5, rfl, rfl, rfl, rfl, rfl, hi, rfl, hrd, hb⟩ := hrel
      by_cases hlt : i < m
      · obtain ⟨ad, Ai, ci, ni, rfl, hci, hri, hmi⟩ := hrd.out.at_ hlt
        obtain ⟨hg, hgl⟩ := HROW.out i hlt
        have hri2 : Rd wr Ai ni (rowG n i) := hri
        obtain rfl : ni = 2 * n := by rw [← hri2.1]; exact hgl
        obtain ⟨N, hN⟩ : ∃ N, 2 * n = N := ⟨_, rfl⟩
        rw [hN] at hci hri2 hgl
        have HTU : Hid (gtuR (rowG n i) = (true, turnG (rowG n i))) := by rw [Hid, gtuR, if_pos (glu_true hg)]
        have hlt2 : (turnG (rowG n i)).length = N := turnG_len.trans hgl
        have HLT := Lib.hid hlt2; have HRI := Lib.hid hri2; have HNN := Lib.hid hN
        have HF := Lib.hid (HFND.out i hlt)
        have hN6 : N ≤ 6 := by omega
        have hN2 : 2 ≤ N := by omega
        clear hri hri2 hg hgl hlt2 hmi hN
        go_wp2_with fail
        refine (impl_gtuR wr Ai ci N (rowG n i) HRI.out (by omega) HTU.out).mono ?_
        rintro x w7 ⟨v, rfl, o, b⟩
        obtain ⟨A7, c7, rfl, r7, -⟩ := o.form' HLT.out
        have HR7 := Lib.hid r7; have HRD7 := Lib.hid (hrd.out.below b); have HB7 := Lib.hid (hb.out.trans (b.mono hb.out.size)); clear o b r7 hci
        go_wp2_with fail
        go_loopw [12, 13] (fun fv kv wz => ∃ k d : Nat, k ≤ m ∧ kv = .int .i64 k ∧ fv = .bool (fbG n (turnG (rowG n i)) k) ∧ wz = w7.drewN d) (fun _ kv _ => m - (intOf kv).toNat)
        case atStart => exact ⟨0, 0, Nat.zero_le _, rfl, rfl, rfl⟩
        case round =>
          obtain ⟨k, d, hk, rfl, rfl, rfl⟩ := hrel
          by_cases hltk : k < m
          · obtain ⟨_, Ak, ck, nk, e1, hck, hrk, hmk⟩ := HRD7.out.at_ hltk
            simp only [Option.some.injEq] at e1
            subst e1
            have hrk2 : Rd w7 Ak nk (rowG n k) := hrk
            have hstep : fbG n (turnG (rowG n i)) (k + 1) = (fbG n (turnG (rowG n i)) k || eqB (rowG n k) (turnG (rowG n i))) := rfl
            have HSM : Hid (∀ W, Rd W Ak nk (rowG n k) → Rd W A7 N (turnG (rowG n i)) → Calls Try.prog 27 #[.slice Ak nk ck, .slice A7 N c7] W fun e w' => e = .returned (.bool (eqB (rowG n k) (turnG (rowG n i)))) ∧ ∃ q, w' = W.drewN q) := fun W h1 h2 => sameInts_any Ak A7 nk N ck c7 _ _ W h1 h2 hmk (by unfold maxLen; omega)
            have HRK := Lib.hid hrk2
            obtain ⟨fb, hfb⟩ : ∃ b, fbG n (turnG (rowG n i)) k = b := ⟨_, rfl⟩
            obtain ⟨eb, heb⟩ : ∃ b, eqB (rowG n k) (turnG (rowG n i)) = b := ⟨_, rfl⟩
            rw [hfb, heb] at hstep
            rw [heb] at HSM
            rw [hfb]
            have HST := Lib.hid hstep
            clear hrk hrk2 hstep hfb heb hmk
            cases fb with
            | true =>
              go_wp2_with fail
              go_roundw
              case rel => exact ⟨k + 1, _, by omega, by go_num, by rw [HST.out]; rfl, rfl⟩
              case measure => simp [intOf]; omega
            | false =>
              go_wp2_with fail
              refine (HSM.out (w7.drewN d) (HRK.out.drewN _) (HR7.out.drewN _)).mono ?_
              rintro x w8 ⟨rfl, q, rfl⟩
              go_wp2_with fail
              go_roundw
              case rel => exact ⟨k + 1, d + q, by omega, by go_num, by rw [HST.out]; rfl, by first | rfl | rw [World.drewN_drewN]⟩
              case measure => simp [intOf]; omega
          · obtain rfl : k = m := by omega
            rw [HF.out]
            have hdw := below_drewN (Below.refl w7.heap.size w7) d
            obtain ⟨W8, hW8⟩ : ∃ W, w7.drewN d = W := ⟨_, rfl⟩
            rw [hW8] at hdw
            have HRD8 := Lib.hid (HRD7.out.below hdw); have HB8 := Lib.hid (HB7.out.trans (hdw.mono HB7.out.size))
            rw [hW8]
            obtain ⟨_, Ai, ci, ni, e1, hci, hri, hmi⟩ := HRD8.out.at_ hlt
            simp only [Option.some.injEq] at e1
            subst e1
            have hri2 : Rd W8 Ai ni (rowG n i) := hri
            have hni : ni = N := by rw [← hri2.1, (HROW.out i hlt).2]; exact HNN.out
            rw [hni] at hci hri2
            have HRI8 := Lib.hid hri2
            have HKM := Lib.hid hk
            clear hri hri2 hmi hni hdw hW8 hk hltk
            rcases Nat.eq_zero_or_pos i with h0 | h0
            · have hz1 : decide ((0 : Int) < (i : Int)) = false := by simp; omega
              have hz2 : decide (0 < i) = false := by simp; omega
              have hN0 : decide ((0 : Int) < (N : Int)) = true := by simp; omega
              have hN0' : decide (0 < N) = true := by simp; omega
              have HI0 := Lib.hid h0; clear h0
              go_wp2_with fail
              go_loopw [14] (fun lv wz => ∃ k2 : Nat, k2 ≤ 0 ∧ lv = .int .i64 k2 ∧ wz = W8) (fun _ _ => 0)
              case atStart => exact ⟨0, Nat.le_refl _, rfl, rfl⟩
              case round =>
                obtain ⟨k2, hk2, rfl, rfl⟩ := hrel
                obtain rfl : k2 = 0 := by omega
                go_wp2_with fail
                go_roundw
                case rel => exact ⟨i + 1, _, _, _, _, _, rfl, rfl, rfl, rfl, rfl, by omega, by go_num, HRD8, HB8⟩
                case measure => simp [intOf]; omega
            · obtain ⟨i1, he1⟩ : ∃ i1, i = i1 + 1 := ⟨i - 1, by omega⟩
              have hi1 : i1 < k := by omega
              obtain ⟨_, Aj, cj, nj, e1, hcj, hrj, hmj⟩ := HRD8.out.at_ hi1
              simp only [Option.some.injEq] at e1
              subst e1
              have hrj2 : Rd W8 Aj nj (rowG n i1) := hrj
              have hnj : nj = N := by rw [← hrj2.1, (HROW.out i1 hi1).2]; exact HNN.out
              rw [hnj] at hcj hrj2
              have HRJ8 := Lib.hid hrj2
              obtain ⟨hd1, hd2, hd3⟩ := HASC.out i1 (by omega)
              rw [← he1] at hd1 hd2 hd3
              obtain ⟨D, hD⟩ : ∃ D, dfi (rowG n i) (rowG n i1) = D := ⟨_, rfl⟩
              rw [hD] at hd1 hd2 hd3
              rw [HNN.out] at hd1
              have HD2 := Lib.hid hd2; have HD3 := Lib.hid hd3
              have hip : decide ((0 : Int) < (i : Int)) = true := by simp; omega
              have hip' : decide (0 < i) = true := by simp; omega
              have hwi : IntKind.i64.wrap ((i : Int) - 1) = (i1 : Int) := by rw [IntWalk.i64_in _ (by omega)]; omega
              have hii : (i1 : Int) < (k : Int) := by omega
              have HE1 := Lib.hid he1
              clear hrj hrj2 hmj hnj hd2 hd3 hD he1 h0
              go_wp2_with fail
              go_loopw [14] (fun lv wz => ∃ k2 d2 : Nat, k2 ≤ D ∧ lv = .int .i64 k2 ∧ wz = W8.drewN d2) (fun lv _ => D + 1 - (intOf lv).toNat)
              case atStart => exact ⟨0, 0, Nat.zero_le _, rfl, rfl⟩
              case round =>
                obtain ⟨k2, d2, hk2, rfl, rfl⟩ := hrel
                have hk2N : k2 < N := by omega
                obtain ⟨ai, rfl, hvi⟩ := HRI8.out.at_ hk2N
                obtain ⟨aj, rfl, hvj⟩ := HRJ8.out.at_ hk2N
                have hkN : decide ((k2 : Int) < (N : Int)) = true := by simp; omega
                have hkN' : decide (k2 < N) = true := by simp; omega
                by_cases hkD : k2 < D
                · have heq := HD2.out k2 hkD
                  rw [heq] at hvi
                  obtain ⟨u, hu⟩ : ∃ u, gi (rowG n i1) k2 = u := ⟨_, rfl⟩
                  rw [hu] at hvi hvj
                  have hne : (u != u) = false := by simp
                  have hlast : ((k2 : Int) + 1 == (N : Int)) = false := by simp; omega
                  clear heq hu
                  go_wp2_with fail
                  go_quiet (fail)
                  go_wp2_with fail
                  go_roundw
                  case rel => exact ⟨k2 + 1, _, by omega, by go_num, rfl⟩
                  case measure => simp [intOf]; omega
                · obtain rfl : k2 = D := by omega
                  have hlt3 := HD3.out
                  obtain ⟨u, hu⟩ : ∃ u, gi (rowG n i) k2 = u := ⟨_, rfl⟩
                  obtain ⟨v, hv⟩ : ∃ v, gi (rowG n i1) k2 = v := ⟨_, rfl⟩
                  rw [hu] at hvi hlt3
                  rw [hv] at hvj hlt3
                  have hne : (u != v) = true := by simp; omega
                  have hnl : decide (u < v) = false := by simp; omega
                  clear hu hv hlt3
                  go_wp2_with fail
                  go_quiet (fail)
                  go_wp2_with fail
                  go_quiet (fail)
                  go_wp2_with fail
                  go_roundw
                  case rel => exact ⟨i + 1, _, _, _, _, _, rfl, rfl, rfl, rfl, rfl, by omega, by go_num, HRD8, below_drewN HB8.out _⟩
                  case measure => simp [intOf]; omega
      · obtain rfl : i = m := by omega
        have hs := HSUM.out
        obtain ⟨sv, hsv⟩ : ∃ sv, wrap64 (r0 + r1) = sv := ⟨_, rfl⟩
        rw [hsv] at hs
        clear hlt
        go_wp2_with fail
        go_ret
        exact ⟨rfl, hb.out⟩
  · have HGR : Hid (gallR e = (false, [])) := by rw [Hid, gallR, if_neg hv]
    go_wp2_with fail
    refine (impl_gallR w1 e hw HGR.out).mono ?_
    rintro x w2 ⟨v, rfl, o, b⟩
    obtain ⟨A2, c2, rfl, -⟩ := o.form (n := 0) rfl
    have HRD2 := Lib.hid (o.rd (n := 0) rfl); have HB2 := Lib.hid (HB1.out.trans (b.mono HB1.out.size)); clear o b
    go_wp2_with fail
    refine (spec_gallR w2 e hw HGR.out).mono ?_
    rintro x w3 ⟨v, rfl, o, b⟩
    obtain ⟨A3, c3, rfl, -⟩ := o.form (n := 0) rfl
    have HRD3 := Lib.hid (o.rd (n := 0) rfl); have HB3 := Lib.hid (HB2.out.trans (b.mono HB2.out.size))
    have HRD2' := Lib.hid (HRD2.out.below b); clear o b HRD2
    go_wp2_with fail
    refine (sameLists_same A2 A3 0 c2 c3 [] w3 HRD2'.out HRD3.out (by omega)).mono ?_
    rintro x w4 ⟨rfl, b⟩
    have HRD4 := Lib.hid (HRD2'.out.below b); have HRD34 := Lib.hid (HRD3.out.below b); have HB4 := Lib.hid (HB3.out.trans (b.mono HB3.out.size)); clear b HRD2' HRD3
    go_wp2_with fail
    refine (sameLists_same A2 A3 0 c2 c3 [] w4 HRD4.out HRD34.out (by omega)).mono ?_
    rintro x w5 ⟨rfl, b⟩
    have HB5 := Lib.hid (HB4.out.trans (b.mono HB4.out.size)); clear b
    go_wp2_with fail
    go_ret
    exact ⟨rfl, HB5.out⟩

end Go.Proofs.Ytolbcdhkjhbepaa
