/-
  The model's corners.
-/
import Derived.Test.YtnplklccnaiemaaDoorWrdM
import Derived.Test.YtnplklccnaiemaaDoorWrdN
import Derived.Test.YtnplklccnaiemaaDoorWoOrb
import Derived.Test.YtnplklccnaiemaaDoorKit
import Derived.Deep.DeepCutAuto
namespace Go.Proofs.YtnplklccnaiemaaDoor
open Go.RowKit

theorem two_rowsM {w wa wb : World} {n : Nat} {g g' : Nat} (hg : g = w.heap.size) (hg' : g' = wa.heap.size) (ha : Own wa w.heap.size (.slice (some ⟨g, 0, none⟩) n n) (List.replicate n 0)) (hga : w.grownBy wa none) (hb : Own wb wa.heap.size (.slice (some ⟨g', 0, none⟩) n n) (List.replicate n 0)) (hgb : wa.grownBy wb none) :
    g ≠ g' ∧ Own wb w.heap.size (.slice (some ⟨g, 0, none⟩) n n) (List.replicate n 0) ∧ Own wb w.heap.size (.slice (some ⟨g', 0, none⟩) n n) (List.replicate n 0) ∧ Below w.heap.size w wb := by
  have h1 := (ha.lt g rfl).2
  refine ⟨by omega, ha.grown hgb (.inr (by simp [Value.ownBlock])), hb.mono hga.size, ?_⟩
  exact (below_of_grown hga (Nat.le_refl _) (fun k hk => by cases hk)).grown hgb hga.size (fun k hk => by cases hk)

def TwoRowsM (w wx : World) (n : Nat) (v v' : Value) : Prop := ∃ g g', v = .slice (some ⟨g, 0, none⟩) n n ∧ v' = .slice (some ⟨g', 0, none⟩) n n ∧ g ≠ g' ∧ Own wx w.heap.size v (List.replicate n 0) ∧ Own wx w.heap.size v' (List.replicate n 0) ∧ Below w.heap.size w wx
set_option maxRecDepth 20000 in
set_option maxHeartbeats 3200000 in
theorem l8Corners_any (s : ByteArray) (w : World) (hW : Word s.data.toList) :
    Calls Tryd.prog 44 #[.string s] w fun e w' => e = .returned (.int .i64 (corN s.data.toList : Int)) ∧ Below w.heap.size w w' := by
  obtain ⟨i0, hinf, hz0, hz1, hz2⟩ := info_parts info_int
  have hlen := hW.len
  rw [len_str] at hlen
  obtain ⟨hn2, hn10, -⟩ := hlen
  have HW := Lib.hid hW; clear hW
  obtain ⟨m, hm⟩ : ∃ m, m = 2 * s.size := ⟨_, rfl⟩
  have hw2 : 2 * (s.size : Int) = (m : Int) := by omega
  have HM := Lib.hid hm
  have hm20 : m ≤ 20 := by omega
  clear hm
  have HZ := Lib.hid (And.intro hz1 hz2)
  go_enter Tryd.func44, Tryd.ntmps44
  go_wp2_with (first
    | (at_make; refine wpList_make_full _ rfl (.tmp 15) (.tmp 15) 40 rfl w.heap.size 3 i0 (.int .i64 0) 1 Tryd.underlying40 hinf hz0 hz1 .i64 .i64 _ _ m rfl rfl rfl rfl (by rw [hz2]; omega) (by unfold maxLen; omega) (Nat.le_refl _) ?_; intro wa hown1 hgrow1; have HO1 := Lib.hid (Own.made hown1); have HG1 := Lib.hid hgrow1; clear hown1 hgrow1)
    | (at_make; refine wpList_make_full _ rfl (.tmp 17) (.tmp 17) 40 rfl wa.heap.size 3 i0 (.int .i64 0) 1 Tryd.underlying40 hinf hz0 hz1 .i64 .i64 _ _ m rfl rfl rfl rfl (by rw [hz2]; omega) (by unfold maxLen; omega) (Nat.le_refl _) ?_; intro wb hown2 hgrow2; have HO2 := Lib.hid (Own.made hown2); have HG2 := Lib.hid hgrow2; clear hown2 hgrow2))
  have hr : ∃ g g', w.heap.size = g ∧ wa.heap.size = g' ∧ g ≠ g' ∧ Own wb w.heap.size (.slice (some ⟨g, 0, none⟩) m m) (List.replicate m 0) ∧ Own wb w.heap.size (.slice (some ⟨g', 0, none⟩) m m) (List.replicate m 0) ∧ Below w.heap.size w wb :=
    ⟨_, _, rfl, rfl, two_rowsM rfl rfl HO1.out HG1.out HO2.out HG2.out⟩
  obtain ⟨g, g', eg, eg', hgg, oa, ob, b0⟩ := hr
  rw [eg, eg']
  have HA := Lib.hid oa; have HB := Lib.hid ob; have HB0 := Lib.hid b0
  have hg1 := oa.lt g rfl
  have hg2 := ob.lt g' rfl
  clear oa ob b0 HO1 HG1 HO2 HG2 HZ eg eg'
  go_loopw [6, 7, 8] (fun kv _ _ wr => ∃ (k : Nat) (gl nx : List Int), k ≤ s.size ∧ kv = .int .i64 k ∧ Hid (Own wr w.heap.size (.slice (some ⟨g, 0, none⟩) m m) gl) ∧ Hid (Own wr w.heap.size (.slice (some ⟨g', 0, none⟩) m m) nx) ∧ Hid (Below w.heap.size w wr) ∧ Hid (Fill s.data.toList k gl nx)) (fun kv _ _ _ => s.size - (intOf kv).toNat)
  case atStart =>
    refine ⟨0, _, _, Nat.zero_le _, rfl, HA.out, HB.out, HB0.out, ?_⟩
    have := Fill.start s.data.toList
    rw [len_str, ← HM.out] at this
    exact this
  case round =>
    clear HA HB HB0
    obtain ⟨k, gl, nx, hk, rfl, ho, hn, hb, hF⟩ := hrel
    by_cases hlt : k < s.size
    · have hkl : k < s.data.toList.length := by rw [len_str]; exact hlt
      obtain ⟨p, hpp⟩ : ∃ p, par s.data.toList k = p := ⟨_, rfl⟩
      have hps : p < s.size := by have := (HW.out.isPar hkl).lt; rw [len_str, hpp] at this; exact this
      have hgl : gl.length = m := by rw [hF.out.lg, len_str, HM.out]
      have hnl : nx.length = m := by rw [hF.out.nl, len_str, HM.out]
      obtain ⟨x0, ex0⟩ : ∃ x, x = 2 * k := ⟨_, rfl⟩
      obtain ⟨x1, ex1⟩ : ∃ x, x = 2 * k + 1 := ⟨_, rfl⟩
      obtain ⟨x2, ex2⟩ : ∃ x, x = 2 * k + 2 := ⟨_, rfl⟩
      obtain ⟨x3, ex3⟩ : ∃ x, x = (2 * k + 2) % m := ⟨_, rfl⟩
      obtain ⟨y0, ey0⟩ : ∃ x, x = 2 * p := ⟨_, rfl⟩
      obtain ⟨y1, ey1⟩ : ∃ x, x = 2 * p + 1 := ⟨_, rfl⟩
      have HM2 := HM.out
      have hx0m : x0 < m := by omega
      have hx1m : x1 < m := by omega
      have hx3m : x3 < m := by rw [ex3]; exact Nat.mod_lt _ (by omega)
      have hx0 : 2 * (k : Int) = (x0 : Int) := by omega
      have hx1 : (x0 : Int) + 1 = (x1 : Int) := by omega
      have hx2 : (x0 : Int) + 2 = (x2 : Int) := by omega
      have hx3 : (x2 : Int) % (m : Int) = (x3 : Int) := by rw [ex2, ex3]; rfl
      have hx3' : (x2 : Int).tmod (m : Int) = (x3 : Int) := by rw [ex2, ex3]; rfl
      have hy0 : 2 * (p : Int) = (y0 : Int) := by omega
      have hy1 : (y0 : Int) + 1 = (y1 : Int) := by omega
      have hy2 : (y1 : Int) - 1 = (y0 : Int) := by omega
      have hy20 : y1 ≤ 20 := by omega
      have hx13 : x1 ≠ x3 := by rw [ex1, ex3, HM2]; exact nx_ne hlt
      have HX0 := Lib.hid ex0; have HX1 := Lib.hid ex1; have HX3 := Lib.hid ex3
      have HY : Hid (par s.data.toList k = p ∧ y0 = 2 * p ∧ y1 = 2 * p + 1) := ⟨hpp, ey0, ey1⟩
      have hx2b : x2 ≤ 22 := by omega
      clear ex0 ex1 ex2 ex3 ey0 ey1 HM2
      obtain ⟨b, hbt⟩ : ∃ b, twoAt s.data.toList k = b := ⟨_, rfl⟩
      have HTW : Hid (tw s.data.toList k = if b then 1 else 0) := by rw [Hid, tw, hbt]
      have hbb : (sml s[k] != sml s[p]) = b := by
        rw [← hbt, twoAt, hpp, ← gb_at s hlt, ← gb_at s hps]
      have hbb2 : (!(sml s[k] == sml s[p])) = b := hbb
      have HPP := Lib.hid hpp; clear hpp hbt
      cases b with
      | true =>
        have HG0 : Hid ((glE s.data.toList x0 : Int) = (y1 : Int)) := by
          have e1 := HX0.out; have e2 := HTW.out; have e3 := HY.out
          rw [Hid, e1, glE_even, e2]; simp; omega
        have HG1 : Hid ((glE s.data.toList x1 : Int) = (y0 : Int)) := by
          have e1 := HX1.out; have e2 := HTW.out; have e3 := HY.out
          rw [Hid, e1, glE_odd, e2]; simp; omega
        have HFS : Hid (Fill s.data.toList (k + 1) ((gl.set x0 (y1 : Int)).set x1 (y0 : Int)) ((nx.set x1 (x3 : Int)).set x3 (x1 : Int))) := by
          have h1 := hF.out.step hkl
          have e3 : (2 * k + 2) % (2 * s.data.toList.length) = x3 := by rw [len_str, ← HM.out]; exact HX3.out.symm
          rw [e3, ← HX1.out, ← HX0.out, HG0.out, HG1.out] at h1
          exact h1
        go_wp2_with (go_at_call 21; refine (l8Partner_any s k _ (by omega) hlt).mono ?_; rintro e w' ⟨rfl, q1, rfl⟩; rw [HPP.out])
        go_quiet ((go_at_call 24; exact (l8Small_any _ _).mono fun e w' h => ⟨h.1, _, h.2.symm⟩))
        have hoA := (ho.out.drewN q1).drewN nq
        have hoB := (hn.out.drewN q1).drewN nq
        have hbW := below_drewN (below_drewN hb.out q1) nq
        obtain ⟨W, hWr⟩ : ∃ W, (wr.drewN q1).drewN nq = W := ⟨_, rfl⟩
        rw [hWr] at hoA hoB hbW
        rw [hWr]
        clear hWr
        obtain ⟨q2, e1, _, hm1, hf1⟩ := hoA.cellAt hgl hx0m
        simp only [Option.some.injEq, Addr.mk.injEq, and_true] at e1
        subst e1
        have S1 := hoA.stored hgl x0 (y1 : Int)
        obtain ⟨q3, e2, _, hm2, hf2⟩ := hoA.cellAt hgl hx1m
        simp only [Option.some.injEq, Addr.mk.injEq, and_true] at e2
        subst e2
        have S2 := S1.1.stored (by rw [List.length_set]; exact hgl) x1 (y0 : Int)
        have HG := Lib.hid (grownBy_trans S1.2 S2.2)
        have HS2 := S2.1
        have HOB := hoB.grown HG.out (.inr (by simp [Value.ownBlock]; omega))
        have HBW := hbW.grown HG.out hbW.size (fun r hr => by simp at hr; omega)
        obtain ⟨q4, e3, _, hm3, hf3⟩ := hoB.cellAt hnl hx1m
        simp only [Option.some.injEq, Addr.mk.injEq, and_true] at e3
        subst e3
        have S3 := HOB.stored hnl x1 (x3 : Int)
        obtain ⟨q5, e4, _, hm4, hf4⟩ := hoB.cellAt hnl hx3m
        simp only [Option.some.injEq, Addr.mk.injEq, and_true] at e4
        subst e4
        have S4 := S3.1.stored (by rw [List.length_set]; exact hnl) x3 (x1 : Int)
        have HG2 := Lib.hid (grownBy_trans S3.2 S4.2)
        have HA4 := Lib.hid (HS2.grown HG2.out (.inr (by simp [Value.ownBlock]; omega)))
        have HB4 := Lib.hid S4.1
        have HBW4 := Lib.hid (HBW.grown HG2.out HBW.size (fun r hr => by simp at hr; omega))
        have hx01 : x0 ≠ x1 := by omega
        have hgg2 : g' ≠ g := by omega
        clear hoA hoB S1 S2 S3 S4 HS2 HOB HBW HG HG2
        go_wp2_with fail
        go_roundw
        case rel => exact ⟨k + 1, _, _, by omega, by go_num, HA4.out, HB4.out, HBW4.out, HFS.out⟩
        case measure => simp [intOf]; omega
      | false =>
        have HG0 : Hid ((glE s.data.toList x0 : Int) = (y0 : Int)) := by
          have e1 := HX0.out; have e2 := HTW.out; have e3 := HY.out
          rw [Hid, e1, glE_even, e2]; simp; omega
        have HG1 : Hid ((glE s.data.toList x1 : Int) = (y1 : Int)) := by
          have e1 := HX1.out; have e2 := HTW.out; have e3 := HY.out
          rw [Hid, e1, glE_odd, e2]; simp; omega
        have HFS : Hid (Fill s.data.toList (k + 1) ((gl.set x0 (y0 : Int)).set x1 (y1 : Int)) ((nx.set x1 (x3 : Int)).set x3 (x1 : Int))) := by
          have h1 := hF.out.step hkl
          have e3 : (2 * k + 2) % (2 * s.data.toList.length) = x3 := by rw [len_str, ← HM.out]; exact HX3.out.symm
          rw [e3, ← HX1.out, ← HX0.out, HG0.out, HG1.out] at h1
          exact h1
        go_wp2_with (go_at_call 21; refine (l8Partner_any s k _ (by omega) hlt).mono ?_; rintro e w' ⟨rfl, q1, rfl⟩; rw [HPP.out])
        go_quiet ((go_at_call 24; exact (l8Small_any _ _).mono fun e w' h => ⟨h.1, _, h.2.symm⟩))
        have hoA := (ho.out.drewN q1).drewN nq
        have hoB := (hn.out.drewN q1).drewN nq
        have hbW := below_drewN (below_drewN hb.out q1) nq
        obtain ⟨W, hWr⟩ : ∃ W, (wr.drewN q1).drewN nq = W := ⟨_, rfl⟩
        rw [hWr] at hoA hoB hbW
        rw [hWr]
        clear hWr
        obtain ⟨q2, e1, _, hm1, hf1⟩ := hoA.cellAt hgl hx0m
        simp only [Option.some.injEq, Addr.mk.injEq, and_true] at e1
        subst e1
        have S1 := hoA.stored hgl x0 (y0 : Int)
        obtain ⟨q3, e2, _, hm2, hf2⟩ := hoA.cellAt hgl hx1m
        simp only [Option.some.injEq, Addr.mk.injEq, and_true] at e2
        subst e2
        have S2 := S1.1.stored (by rw [List.length_set]; exact hgl) x1 (y1 : Int)
        have HG := Lib.hid (grownBy_trans S1.2 S2.2)
        have HS2 := S2.1
        have HOB := hoB.grown HG.out (.inr (by simp [Value.ownBlock]; omega))
        have HBW := hbW.grown HG.out hbW.size (fun r hr => by simp at hr; omega)
        obtain ⟨q4, e3, _, hm3, hf3⟩ := hoB.cellAt hnl hx1m
        simp only [Option.some.injEq, Addr.mk.injEq, and_true] at e3
        subst e3
        have S3 := HOB.stored hnl x1 (x3 : Int)
        obtain ⟨q5, e4, _, hm4, hf4⟩ := hoB.cellAt hnl hx3m
        simp only [Option.some.injEq, Addr.mk.injEq, and_true] at e4
        subst e4
        have S4 := S3.1.stored (by rw [List.length_set]; exact hnl) x3 (x1 : Int)
        have HG2 := Lib.hid (grownBy_trans S3.2 S4.2)
        have HA4 := Lib.hid (HS2.grown HG2.out (.inr (by simp [Value.ownBlock]; omega)))
        have HB4 := Lib.hid S4.1
        have HBW4 := Lib.hid (HBW.grown HG2.out HBW.size (fun r hr => by simp at hr; omega))
        have hx01 : x0 ≠ x1 := by omega
        have hgg2 : g' ≠ g := by omega
        clear hoA hoB S1 S2 S3 S4 HS2 HOB HBW HG HG2
        go_wp2_with fail
        go_roundw
        case rel => exact ⟨k + 1, _, _, by omega, by go_num, HA4.out, HB4.out, HBW4.out, HFS.out⟩
        case measure => simp [intOf]; omega
    · have hks : k = s.size := by omega
      have hfd : gl = gluW s.data.toList ∧ nx = nxtW s.data.toList.length := Fill.done (by have := hF.out; rw [hks, ← len_str s] at this; exact this) (by rw [len_str]; omega)
      have HFD := Lib.hid hfd
      obtain ⟨hv1, hv2⟩ := HW.out.ivl
      rw [← hfd.1] at hv1
      rw [← hfd.2] at hv2
      have hgl : gl.length = m := by rw [hF.out.lg, len_str, HM.out]
      have hnl : nx.length = m := by rw [hF.out.nl, len_str, HM.out]
      have HC := Lib.hid (l1Orbits_anyI (some ⟨g, 0, none⟩) (some ⟨g', 0, none⟩) m m m gl nx wr (ho.out.rd hgl) (hn.out.rd hnl) hv1 hv2)
      have HOL : Hid ((orbL gl nx).length = m) := by rw [Hid, orbL_len]; exact hgl
      obtain ⟨ls, hls⟩ : ∃ ls, orbL gl nx = ls := ⟨_, rfl⟩
      rw [hls] at HC HOL
      have HLS : Hid (corL s.data.toList = ls) := by rw [Hid, corL, ← HFD.out.1, ← HFD.out.2]; exact hls
      clear hks hfd hv1 hv2 hgl hnl hls
      go_wp2_with fail
      refine HC.out.mono ?_
      rintro e w6 ⟨v, rfl, o, b⟩
      obtain ⟨A6, c6, rfl, hr6, -⟩ := o.form' HOL.out
      have HR6 := Lib.hid hr6
      have HB6 : Hid (Below w.heap.size w w6) := hb.out.trans (b.mono hb.out.size)
      clear b o hr6
      go_wp2_with fail
      go_loop [10, 11] (fun cv kv => ∃ k q : Nat, k ≤ m ∧ q ≤ k ∧ kv = .int .i64 k ∧ cv = .int .i64 q ∧ Hid (q = fixN ls k)) (fun _ kv => m - (intOf kv).toNat)
      case atStart => exact ⟨0, 0, Nat.zero_le _, Nat.le_refl _, rfl, rfl, rfl⟩
      case round =>
        obtain ⟨k, q, hk, hqk, rfl, rfl, hq⟩ := hrel
        by_cases hlt : k < m
        · obtain ⟨ad, rfl, hc⟩ := HR6.out.at_ hlt
          have hs := fixN_succ ls k
          rw [← hq.out] at hs
          have HS := Lib.hid hs; clear hs
          obtain ⟨z, hz⟩ : ∃ z, gi ls k = z := ⟨_, rfl⟩
          rw [hz] at hc
          have HZ := Lib.hid hz; clear hz
          by_cases e : z = (k : Int)
          · have d : (z == (k : Int)) = true := by simp [e]
            have HE := Lib.hid e; clear e
            go_wp2_with fail
            go_round
            case rel => exact ⟨k + 1, q + 1, by omega, by omega, by go_num, by go_num, by rw [Hid, HS.out, if_pos (HZ.out.trans HE.out)]⟩
            case measure => simp [intOf]; omega
          · have d : (z == (k : Int)) = false := by simp; omega
            have HE := Lib.hid e; clear e
            go_wp2_with fail
            go_round
            case rel => exact ⟨k + 1, q, by omega, by omega, by go_num, rfl, by rw [Hid, HS.out, if_neg (fun e => HE.out (HZ.out.symm.trans e))]; rfl⟩
            case measure => simp [intOf]; omega
        · have hkn : k = m := by omega
          have HK := Lib.hid hkn; clear hkn
          go_wp2_with fail
          go_ret
          refine ⟨ret_intE ?_, HB6.out⟩
          rw [hq.out, HK.out, corN, HLS.out, len_str, HM.out]

end Go.Proofs.YtnplklccnaiemaaDoor
