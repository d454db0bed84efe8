/-
  The model's count of gluings: the free list, the list of all, the loop.
-/
import Derived.Test.YtolbcdhkjhbepaaGlJ
import Derived.Test.YtolbcdhkjhbepaaCnt
namespace Go.Proofs.Ytolbcdhkjhbepaa
open Go.RowKit
set_option linter.unusedVariables false
attribute [local go_sem] Oper.semAt_some

set_option maxRecDepth 20000 in
set_option maxHeartbeats 1600000 in
theorem l4Free_any (w : World) (n : Nat) (h1 : 1 ≤ n) (h5 : n ≤ 5) :
    Calls Try.prog 37 #[.int .i64 n] w fun e w' => ∃ v, e = .returned v ∧ Own w' w.heap.size v (noneL (2 * n)) ∧ Below w.heap.size w w' := by
  obtain ⟨i0, hinf, hz0, hz1, hz2⟩ := info_parts info_int
  go_enter Try.func37, Try.ntmps37
  go_wp2_with fail
  go_loopw [3, 4] (fun v' iv wr => ∃ (v : Value) (k : Nat), v = v' ∧ k ≤ 2 * n ∧ iv = .int .i64 k ∧ Hid (Own wr w.heap.size v (noneL k)) ∧ Hid (Below w.heap.size w wr)) (fun _ iv _ => 2 * n - (intOf iv).toNat)
  case atStart => exact ⟨_, 0, rfl, Nat.zero_le _, rfl, Own.empty (Nat.le_refl _), (Below.refl _ _).alloc (Nat.le_refl _) _⟩
  case round =>
    obtain ⟨v, k, rfl, hk, rfl, ho, hb⟩ := hrel
    have hbs := hb.out.size
    by_cases hlt : k < 2 * n
    · have hd : decide ((k : Int) < 2 * (n : Int)) = true := decide_eq_true (by omega)
      have HO1 : Hid (wr.ownsRow w.heap.size 3 1 v k (ints (noneL k))) := by have h := ho.out; unfold Own at h; rwa [noneL_len] at h
      go_wp2_with (at_builtin; refine wpList_append_own _ rfl _ _ 35 rfl w.heap.size 3 i0 (.int .i64 0) 1 8 Try.underlying35 hinf hz0 hz1 hz2 rfl (by decide) _ _ _ rfl (HO1.out.alloc _) ⟨wr.heap.size, 0, none⟩ 1 1 [.int .i64 (-1)] rfl rfl (cell_one_new _ _ _) (by intro u hu; simp at hu; subst hu; rfl) (by unfold maxLen; omega) (by omega) (by simp; omega) ?_; intro v1 w2 hown1 hgrow1 _; have HOA := Lib.hid hown1; have HGR := Lib.hid hgrow1; clear hown1 hgrow1)
      go_roundw
      case rel =>
        refine ⟨_, k + 1, rfl, by omega, by go_num, ?_, (hb.out.alloc hbs _).grown HGR.out (by simp; omega) (fun j hj => (HO1.out.lt j hj).1)⟩
        have e : noneL (k + 1) = noneL k ++ [-1] := by unfold noneL; rw [List.replicate_succ']
        rw [Hid, e, Own, List.length_append, noneL_len, ints, List.map_append]
        exact HOA.out
      case measure => simp [intOf]; omega
    · obtain rfl : k = 2 * n := by omega
      have hd : decide (((2 * n : Nat) : Int) < 2 * (n : Int)) = false := decide_eq_false (by omega)
      go_wp2_with fail
      go_ret
      exact ⟨_, rfl, ho.out, hb.out⟩

theorem add0 (g j : Nat) : (⟨g, 0, none⟩ : Addr).add j = ⟨g, j, none⟩ := by unfold Addr.add; split <;> simp_all
theorem take_snoc {acc : List (List Int)} {i : Nat} (h : i < acc.length) : acc.take (i + 1) = acc.take i ++ [acc.getD i []] := by
  rw [List.take_add_one, List.getD_eq_getElem?_getD, List.getElem?_eq_getElem h]; rfl

set_option maxRecDepth 20000 in
set_option maxHeartbeats 3200000 in
theorem spec_gcount (w : World) (n g : Int) (hw : (Lit.int .i64 n).wf = true) (hw' : (Lit.int .i64 g).wf = true) {r : Int} (hr : gcountF n g = r) :
    Calls Try.prog 15 #[.int .i64 n, .int .i64 g] w fun x w' => x = .returned (.int .i64 r) ∧ Below w.heap.size w w' := by
  have HR := Lib.hid hr; clear hr
  by_cases h1 : 1 ≤ n ∧ n ≤ 4
  · have hd1 : (decide ((1 : Int) ≤ n) && decide (n ≤ 4)) = true := by simp [h1]
    by_cases h2 : 0 ≤ g
    · have HV : Hid (cntW g (allG n.toNat) = r) := by have := HR.out; rwa [gcountF, if_pos ⟨h1.1, h1.2, h2⟩] at this
      have d3 : decide (g < 0) = false := by simp; omega
      obtain ⟨n, rfl⟩ : ∃ k : Nat, n = k := ⟨n.toNat, by omega⟩
      rw [Int.toNat_natCast] at HV
      have hn1 : 1 ≤ n := by omega
      have hn4 : n ≤ 4 := by omega
      have hf := noneL_free (2 * n)
      have HAL := Lib.hid (allAt n (by omega) (noneL (2 * n)) (noneL_pg _) (by omega))
      have hall : ∀ p, p ∈ allG n → IsG p := fun p hp => ((allG_iff hn1 (by omega) p).1 hp).1
      have hlen : (allG n).length ≤ 10 ^ n := comps_len n _ (by rw [noneL_len]; omega)
      have h10 : 10 ^ n ≤ 10 ^ 4 := Nat.pow_le_pow_right (by omega) hn4
      have HALL := Lib.hid hall
      obtain ⟨M, hM⟩ : ∃ M, (allG n).length = M := ⟨_, rfl⟩
      have hM4 : M ≤ 10000 := by omega
      have HM := Lib.hid hM
      clear h1 h2 hf hall hlen h10 hM HR
      go_enter Try.func15, Try.ntmps15
      go_wp2_with fail
      refine (in_any w n 1 4).mono ?_
      rintro x w' ⟨rfl, rfl⟩
      rw [hd1]
      go_wp2_with fail
      refine (l4Free_any w' n hn1 (by omega)).mono ?_
      rintro x w2 ⟨v, rfl, o, b⟩
      obtain ⟨A, c, rfl, -, -⟩ := o.form' (noneL_len (2 * n))
      have HO := Lib.hid o; have HB := Lib.hid b; clear o b
      go_wp2_with fail
      refine (HAL.out w2 w'.heap.size A c (2 * n) HO.out HB.out.size (noneL_len _) (noneL_pg _) (by omega) (by omega)).mono ?_
      rintro x w3 ⟨g0, m, cc, rfl, hm, os, b⟩
      have hmM : m = M := by rw [← hm, ← HM.out]; rfl
      subst hmM
      have HOS : Hid (OwnSS w3 w'.heap.size w3.heap.size (.slice (some ⟨g0, 0, none⟩) m cc) (allG n)) := os
      have HB3 := Lib.hid (HB.out.trans (b.mono HB.out.size)); clear os b hm
      go_wp2_with fail
      go_loopw [5, 7] (fun sv iv wr => ∃ i : Nat, i ≤ m ∧ iv = .int .i64 i ∧ sv = .int .i64 (cntW g ((allG n).take i)) ∧ Hid (OwnSS wr w'.heap.size w3.heap.size (.slice (some ⟨g0, 0, none⟩) m cc) (allG n)) ∧ Hid (Below w'.heap.size w' wr)) (fun _ iv _ => m - (intOf iv).toNat)
      case atStart => exact ⟨0, Nat.zero_le _, rfl, rfl, HOS, HB3⟩
      case round =>
        obtain ⟨i, hi, rfl, rfl, hos, hb⟩ := hrel
        obtain ⟨sv, hsv⟩ : ∃ sv, cntW g ((allG n).take i) = sv := ⟨_, rfl⟩
        have HSV := Lib.hid hsv
        rw [hsv]
        clear hsv
        by_cases hlt : i < m
        · obtain ⟨ad, Aj, cj, nj, e1, hc, hrj, hmj⟩ := (hos.out.rd HM.out).at_ hlt
          simp only [Option.some.injEq] at e1
          subst e1
          rw [add0] at hc
          have hil : i < (allG n).length := by rw [HM.out]; exact hlt
          obtain ⟨ps, hps⟩ : ∃ ps, (allG n).getD i [] = ps := ⟨_, rfl⟩
          have hG : IsG ps := HALL.out ps (by rw [← hps, List.getD_eq_getElem?_getD, List.getElem?_eq_getElem hil]; exact List.getElem_mem _)
          have hts := take_snoc hil
          rw [hps] at hrj hts
          have hnj : nj ≤ 10 := by rw [← hrj.1]; exact hG.2.1
          obtain ⟨q, hq⟩ : ∃ q, ggen ps = q := ⟨_, rfl⟩
          have HQ : Hid (ggenR ps = q) := by rw [Hid, ggenR, if_pos (glu_true hG), hq]
          have HRJ := Lib.hid hrj; have HTS := Lib.hid hts; have HQ2 := Lib.hid hq
          clear hrj hts hq hps hG hil
          go_wp2_with fail
          refine (spec_ggenR wr Aj cj nj ps HRJ.out (by omega) HQ.out).mono ?_
          rintro x w5 ⟨rfl, b⟩
          have HOS5 := Lib.hid (hos.out.below b); have HB5 := Lib.hid (hb.out.trans (b.mono hb.out.size)); clear b
          by_cases he : q = g
          · have hqe : (q == g) = true := by simp [he]
            have HE := Lib.hid he; clear he
            go_wp2_with fail
            go_roundw
            case rel => exact ⟨i + 1, by omega, by go_num, by rw [HTS.out, cntW_snoc, if_pos (by rw [HQ2.out, HE.out]), HSV.out], HOS5, HB5⟩
            case measure => simp [intOf]; omega
          · have hqe : (q == g) = false := by simp [he]
            have HE := Lib.hid he; clear he
            go_wp2_with fail
            go_roundw
            case rel => exact ⟨i + 1, by omega, by go_num, by rw [HTS.out, cntW_snoc, if_neg (by rw [HQ2.out]; exact HE.out), HSV.out], HOS5, HB5⟩
            case measure => simp [intOf]; omega
        · obtain rfl : i = m := by omega
          have hres : sv = r := by rw [← HSV.out, ← HV.out, ← HM.out, List.take_length]
          have HRES := Lib.hid hres
          clear hres hlt
          go_wp2_with fail
          go_ret
          exact ⟨retI HRES.out, hb.out⟩
    · have HV : Hid (r = -1) := by have := HR.out; rw [gcountF, if_neg (by omega)] at this; exact this.symm
      have d3 : decide (g < 0) = true := by simp; omega
      go_enter Try.func15, Try.ntmps15
      go_wp2_with fail
      refine (in_any w n 1 4).mono ?_
      rintro x w' ⟨rfl, rfl⟩
      rw [hd1]
      go_wp2_with fail
      go_ret
      exact ⟨retI HV.out.symm, Below.refl _ _⟩
  · have hd1 : (decide ((1 : Int) ≤ n) && decide (n ≤ 4)) = false := by simp; omega
    have HV : Hid (r = -1) := by have := HR.out; rw [gcountF, if_neg (by omega)] at this; exact this.symm
    go_enter Try.func15, Try.ntmps15
    go_wp2_with fail
    refine (in_any w n 1 4).mono ?_
    rintro x w' ⟨rfl, rfl⟩
    rw [hd1]
    go_wp2_with fail
    go_ret
    exact ⟨retI HV.out.symm, Below.refl _ _⟩

end Go.Proofs.Ytolbcdhkjhbepaa
