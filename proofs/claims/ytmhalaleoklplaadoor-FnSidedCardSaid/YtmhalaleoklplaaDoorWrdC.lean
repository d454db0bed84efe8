/-
  The program's corners: two rows are filled, orbits are counted.
-/
import Derived.Test.YtmhalaleoklplaaDoorWrdP
import Derived.Test.YtmhalaleoklplaaDoorWrdN
import Derived.Test.YtmhalaleoklplaaDoorWoOrb
import Derived.Deep.RegionLaw
import Derived.Deep.DeepCutAuto
namespace Go.Proofs.YtmhalaleoklplaaDoor
open Go.RowKit

/-- The list after k of the two stores of a cycle of two. -/
def leadK (xs : List Int) (x y : Nat) : Nat → List Int
  | 0 => xs
  | 1 => xs.set x (y : Int)
  | _ => (xs.set x (y : Int)).set y (x : Int)
theorem leadK_len (xs : List Int) (x y k : Nat) : (leadK xs x y k).length = xs.length := by
  match k with
  | 0 => rfl
  | 1 => simp [leadK]
  | _ + 2 => simp [leadK]

set_option maxHeartbeats 800000 in
theorem lead_two (g b n c lo x y : Nat) (xs : List Int) (w : World) (h : Own w lo (.slice (some ⟨g, 0, none⟩) n c) xs) (hxl : xs.length = n) (hx : x < n) (hy : y < n) (hgb : b ≠ g)
    (h0 : w.cell? ⟨b, 0, none⟩ = some (.int .i64 (x : Int))) (h1 : w.cell? ⟨b, 1, none⟩ = some (.int .i64 (y : Int))) :
    Calls Tryd.prog 52 #[.slice (some ⟨g, 0, none⟩) n c, .slice (some ⟨b, 0, none⟩) 2 2] w fun e w' => e = .returned (.tuple #[]) ∧ Own w' lo (.slice (some ⟨g, 0, none⟩) n c) ((xs.set x (y : Int)).set y (x : Int)) ∧ w.grownBy w' (some g) := by
  have HO := Lib.hid h; have HX := Lib.hid hxl; have HB := Lib.hid (World.block_lt_of_cell? w _ h0)
  have H0 := Lib.hid h0; have H1 := Lib.hid h1; clear h hxl h0 h1
  go_enter Tryd.func52, Tryd.ntmps52
  go_wp2_with fail
  go_loopw [8] (fun kv wr => ∃ k : Nat, k ≤ 2 ∧ kv = .int .i64 k ∧ Hid (Own wr lo (.slice (some ⟨g, 0, none⟩) n c) (leadK xs x y k)) ∧ Hid (w.grownBy wr (some g))) (fun kv _ => 2 - (intOf kv).toNat)
  case atStart => exact ⟨0, by omega, rfl, HO.out, World.grownBy.refl _ _⟩
  case round =>
    obtain ⟨k, hk, rfl, ho, hg⟩ := hrel
    have hb : ∀ o, wr.cell? ⟨b, o, none⟩ = w.cell? ⟨b, o, none⟩ := fun o => World.cell?_of_block (hg.out.block b HB.out (fun e => hgb (by injection e)))
    have c0 := (hb 0).trans H0.out
    have c1 := (hb 1).trans H1.out
    have hll : (leadK xs x y k).length = n := (leadK_len _ _ _ _).trans HX.out
    clear hb
    by_cases hk0 : k = 0
    · subst hk0
      obtain ⟨g1, e1, _, hm1, hf1⟩ := ho.out.cellAt hll hx
      simp only [Option.some.injEq, Addr.mk.injEq, and_true] at e1
      subst e1
      have S := Lib.hid (ho.out.stored hll x (y : Int))
      clear hll
      go_wp2_with fail
      go_roundw
      case rel => exact ⟨1, by omega, rfl, S.out.1, grownBy_trans hg.out S.out.2⟩
      case measure => simp [intOf]
    · by_cases hk1 : k = 1
      · subst hk1
        obtain ⟨g1, e1, _, hm1, hf1⟩ := ho.out.cellAt hll hy
        simp only [Option.some.injEq, Addr.mk.injEq, and_true] at e1
        subst e1
        have S := Lib.hid (ho.out.stored hll y (x : Int))
        clear hll hk0
        go_wp2_with fail
        go_roundw
        case rel => exact ⟨2, by omega, rfl, S.out.1, grownBy_trans hg.out S.out.2⟩
        case measure => simp [intOf]
      · have hk2 : k = 2 := by omega
        subst hk2
        clear hll hk0 hk1
        go_wp2_with fail
        exact bodyPost_end (by simp [results, Tryd.results52, go_sem]) rfl ⟨rfl, ho.out, hg.out⟩

set_option maxHeartbeats 800000 in
theorem orbCount_any (b0 : Nat) (A A' : Option Addr) (n c c' : Nat) (xs ys : List Int) (w : World) (hv0 : w.cell? ⟨b0, 0, none⟩ = some (.slice A' n c')) (h : Rd w A n xs) (h' : Rd w A' n ys) (hp : Ivl xs) (hq : Ivl ys) :
    Calls Tryd.prog 53 #[.slice A n c, .slice (some ⟨b0, 0, none⟩) 1 1] w fun e w' => e = .returned (.int .i64 (fixN (orbL xs ys) n : Int)) ∧ Below w.heap.size w w' := by
  have Hx := Lib.hid h.1
  have hn20 : n ≤ 20 := by rw [← h.1]; exact hp.2.1
  have HC := Lib.hid (orbits_anyI b0 A A' n c c' xs ys w hv0 h h' hp hq)
  clear hv0 h h' hp hq
  go_enter Tryd.func53, Tryd.ntmps53
  go_wp2_with fail
  refine HC.out.mono ?_
  rintro e w1 ⟨v, rfl, o, b⟩
  have hol : (orbL xs ys).length = n := by rw [orbL_len]; exact Hx.out
  obtain ⟨A1, c1, rfl, hr, -⟩ := o.form' hol
  have HR := Lib.hid hr; have HB := Lib.hid b; clear o b hr hol
  obtain ⟨ls, hls⟩ : ∃ ls, orbL xs ys = ls := ⟨_, rfl⟩
  rw [hls] at HR
  have HLS := Lib.hid hls; clear hls
  go_wp2_with fail
  go_loop [5, 12] (fun cv kv => ∃ k q : Nat, k ≤ n ∧ q ≤ k ∧ kv = .int .i64 k ∧ cv = .int .i64 q ∧ Hid (q = fixN ls k)) (fun _ kv => n - (intOf kv).toNat)
  case atStart => exact ⟨0, 0, Nat.zero_le _, Nat.le_refl _, rfl, rfl, rfl⟩
  case round =>
    obtain ⟨k, q, hk, hqk, rfl, rfl, hq⟩ := hrel
    by_cases hlt : k < n
    · obtain ⟨ad, rfl, hc⟩ := HR.out.at_ hlt
      have hs := fixN_succ ls k
      rw [← hq.out] at hs
      have HS := Lib.hid hs; clear hs
      obtain ⟨z, hz⟩ : ∃ z, gi ls k = z := ⟨_, rfl⟩
      rw [hz] at hc
      have HZ := Lib.hid hz; clear hz
      by_cases e : z = (k : Int)
      · have d : ((k : Int) == z) = true := by simp [e]
        have HE := Lib.hid e; clear e
        go_wp2_with fail
        go_round
        case rel => exact ⟨k + 1, q + 1, by omega, by omega, by go_num, by go_num, by rw [Hid, HS.out, if_pos (HZ.out.trans HE.out)]⟩
        case measure => simp [intOf]; omega
      · have d : ((k : Int) == z) = false := by simp; omega
        have HE := Lib.hid e; clear e
        go_wp2_with fail
        go_round
        case rel => exact ⟨k + 1, q, by omega, by omega, by go_num, rfl, by rw [Hid, HS.out, if_neg (fun e => HE.out (HZ.out.symm.trans e))]; rfl⟩
        case measure => simp [intOf]; omega
    · have hkn : k = n := by omega
      have HK := Lib.hid hkn; clear hkn
      go_wp2_with fail
      go_ret
      exact ⟨ret_intE (by rw [HLS.out, hq.out, HK.out]), HB.out⟩

/-- A row of n noughts made. -/
theorem make_run (w : World) (T : TypeId) (hT : Tryd.prog.underlying T = some (.slice 3)) (n : Nat) (hn : n ≤ 1048576) :
    ∃ w', (Instr.makeSlice T (.int .i64 (n : Int)) (.int .i64 (n : Int))).run Tryd.prog w = .ok (.slice (some ⟨w.heap.size, 0, none⟩) n n) w' ∧ Own w' w.heap.size (.slice (some ⟨w.heap.size, 0, none⟩) n n) (List.replicate n 0) ∧ w.grownBy w' none := by
  obtain ⟨i0, hinf, hz0, hz1, hz2⟩ := info_parts info_int
  obtain ⟨w', hrun, r1, r2⟩ := run_make_full (P := Tryd.prog) w w.heap.size T 3 i0 (.int .i64 0) 1 hT hinf hz0 hz1 .i64 .i64 n (by rw [hz2]; omega) (by unfold maxLen; omega) (Nat.le_refl _)
  exact ⟨w', hrun, Own.made r1, r2⟩

def TwoRows (w wx : World) (n : Nat) (v v' : Value) : Prop := ∃ g g', v = .slice (some ⟨g, 0, none⟩) n n ∧ v' = .slice (some ⟨g', 0, none⟩) n n ∧ g ≠ g' ∧ Own wx w.heap.size v (List.replicate n 0) ∧ Own wx w.heap.size v' (List.replicate n 0) ∧ Below w.heap.size w wx
theorem two_rows {w wa wb : World} {n : Nat} {g g' : Nat} (hg : g = w.heap.size) (hg' : g' = wa.heap.size) (ha : Own wa w.heap.size (.slice (some ⟨g, 0, none⟩) n n) (List.replicate n 0)) (hga : w.grownBy wa none) (hb : Own wb wa.heap.size (.slice (some ⟨g', 0, none⟩) n n) (List.replicate n 0)) (hgb : wa.grownBy wb none) :
    g ≠ g' ∧ Own wb w.heap.size (.slice (some ⟨g, 0, none⟩) n n) (List.replicate n 0) ∧ Own wb w.heap.size (.slice (some ⟨g', 0, none⟩) n n) (List.replicate n 0) ∧ Below w.heap.size w wb := by
  have h1 := (ha.lt g rfl).2
  refine ⟨by omega, ha.grown hgb (.inr (by simp [Value.ownBlock])), hb.mono hga.size, ?_⟩
  exact (below_of_grown hga (Nat.le_refl _) (fun k hk => by cases hk)).grown hgb hga.size (fun k hk => by cases hk)

set_option maxRecDepth 20000 in
set_option maxHeartbeats 3200000 in
theorem corners_any (s : ByteArray) (w : World) (hW : Word s.data.toList) :
    Calls Tryd.prog 43 #[.string s] w fun e w' => e = .returned (.int .i64 (corN s.data.toList : Int)) ∧ Below w.heap.size w w' := by
  have hlen := hW.len
  rw [len_str] at hlen
  obtain ⟨hn2, hn10, -⟩ := hlen
  have HW := Lib.hid hW; clear hW
  obtain ⟨m, hm⟩ : ∃ m, m = 2 * s.size := ⟨_, rfl⟩
  have hw2 : IntKind.i64.wrap (2 * (s.size : Int)) = (m : Int) := by rw [IntWalk.i64_in _ (by omega)]; omega
  have HM := Lib.hid hm
  have hm20 : m ≤ 20 := by omega
  clear hm
  obtain ⟨wa, ra, oa, ga⟩ := make_run w.drew 83 Tryd.underlying83 m (by omega)
  obtain ⟨wb, rb, ob, gb⟩ := make_run wa 83 Tryd.underlying83 m (by omega)
  have hr := two_rows rfl rfl oa ga ob gb
  have hbw : Below w.heap.size w wb := ⟨hr.2.2.2.os, hr.2.2.2.tape, hr.2.2.2.output, hr.2.2.2.size, hr.2.2.2.block⟩
  have HR : Hid (w.heap.size ≠ wa.heap.size ∧ Own wb w.heap.size (.slice (some ⟨w.heap.size, 0, none⟩) m m) (List.replicate m 0) ∧ Own wb w.heap.size (.slice (some ⟨wa.heap.size, 0, none⟩) m m) (List.replicate m 0) ∧ Below w.heap.size w wb) := ⟨hr.1, hr.2.1, hr.2.2.1, hbw⟩
  clear hr hbw
  clear oa ga ob gb
  go_enter Tryd.func43, Tryd.ntmps43
  go_upto_region 1 with fail
  go_cut [3, 4] (fun v v' wx => TwoRows w wx m v v')
  case first =>
    go_region
    all_goals
      go_wp2_with fail
      go_meet
      case rel => first
        | exact ⟨_, _, rfl, rfl, HR.out.1, HR.out.2.1, HR.out.2.2.1, HR.out.2.2.2⟩
        | exact ⟨_, _, rfl, rfl, fun e => HR.out.1 e.symm, HR.out.2.2.1, HR.out.2.1, HR.out.2.2.2⟩
  case rest =>
    obtain ⟨g, g', rfl, rfl, hgg, oa, ob, b0⟩ := hcut
    have HA := Lib.hid oa; have HB := Lib.hid ob; have HB0 := Lib.hid b0
    have hg1 := oa.lt g rfl
    have hg2 := ob.lt g' rfl
    clear oa ob b0 ra rb HR
    go_wp2_with fail
    refine (partners_any s wc HW.out).mono ?_
    rintro e w1 ⟨v, rfl, o, b⟩
    have hpl : (parL s.data.toList).length = s.size := (parL_len _).trans (len_str s)
    obtain ⟨Ap, cp, rfl, -, -⟩ := o.form' hpl
    obtain ⟨gp, rfl, hgp, -, -⟩ := o.cellAt hpl (k := 0) (by omega)
    have HAP : Hid ((Value.slice (some ⟨gp, 0, none⟩) s.size cp).ownBlock = some gp) := rfl
    have HPL := Lib.hid hpl
    have HP := Lib.hid o; have HA1 := Lib.hid (HA.out.below (b.mono (by omega))); have HB1 := Lib.hid (HB.out.below (b.mono (by omega))); have HB2 := Lib.hid (HB0.out.trans (b.mono HB0.out.size))
    clear o b hpl HA HB HB0
    go_wp2_with fail
    go_loopw [20] (fun kv wr => ∃ (k : Nat) (gl nx : List Int), k ≤ s.size ∧ kv = .int .i64 k ∧ Hid (Own wr w.heap.size (.slice (some ⟨g, 0, none⟩) m m) gl) ∧ Hid (Own wr w.heap.size (.slice (some ⟨g', 0, none⟩) m m) nx) ∧ Hid (Own wr wc.heap.size (.slice (some ⟨gp, 0, none⟩) s.size cp) (parL s.data.toList)) ∧ Hid (Below w.heap.size w wr) ∧ Hid (Fill s.data.toList k gl nx)) (fun kv _ => s.size - (intOf kv).toNat)
    case atStart =>
      refine ⟨0, _, _, Nat.zero_le _, rfl, HA1.out, HB1.out, HP.out, HB2.out, ?_⟩
      have := Fill.start s.data.toList
      rw [len_str, ← HM.out] at this
      exact this
    case round =>
      clear HA1 HB1 HP HB2
      obtain ⟨k, gl, nx, hk, rfl, ho, hn, hp, hb, hF⟩ := hrel
      by_cases hlt : k < s.size
      · have hkl : k < s.data.toList.length := by rw [len_str]; exact hlt
        obtain ⟨p, hpp⟩ : ∃ p, par s.data.toList k = p := ⟨_, rfl⟩
        have hps : p < s.size := by have := (HW.out.isPar hkl).lt; rw [len_str, hpp] at this; exact this
        obtain ⟨gq, e1, _, hcp, _⟩ := hp.out.cellAt HPL.out hlt
        simp only [Option.some.injEq, Addr.mk.injEq, and_true] at e1
        subst e1
        rw [parL, gi_tab hkl, hpp] at hcp
        have hgl : gl.length = m := by rw [hF.out.lg, len_str, HM.out]
        have hnl : nx.length = m := by rw [hF.out.nl, len_str, HM.out]
        obtain ⟨x0, ex0⟩ : ∃ x, x = 2 * k := ⟨_, rfl⟩
        obtain ⟨x1, ex1⟩ : ∃ x, x = 2 * k + 1 := ⟨_, rfl⟩
        obtain ⟨x2, ex2⟩ : ∃ x, x = 2 * k + 2 := ⟨_, rfl⟩
        obtain ⟨x3, ex3⟩ : ∃ x, x = (2 * k + 2) % m := ⟨_, rfl⟩
        obtain ⟨y0, ey0⟩ : ∃ x, x = 2 * p := ⟨_, rfl⟩
        obtain ⟨y1, ey1⟩ : ∃ x, x = 2 * p + 1 := ⟨_, rfl⟩
        have HM2 := HM.out
        have hx0m : x0 < m := by omega
        have hx1m : x1 < m := by omega
        have hx3m : x3 < m := by rw [ex3]; exact Nat.mod_lt _ (by omega)
        have hx0 : 2 * (k : Int) = (x0 : Int) := by omega
        have hx1 : (x0 : Int) + 1 = (x1 : Int) := by omega
        have hx2 : (x0 : Int) + 2 = (x2 : Int) := by omega
        have hx3 : (x2 : Int) % (m : Int) = (x3 : Int) := by rw [ex2, ex3]; rfl
        have hx3' : (x2 : Int).tmod (m : Int) = (x3 : Int) := by rw [ex2, ex3]; rfl
        have hy0 : 2 * (p : Int) = (y0 : Int) := by omega
        have hy1 : (y0 : Int) + 1 = (y1 : Int) := by omega
        have hy20 : y1 ≤ 20 := by omega
        have HX0 := Lib.hid ex0; have HX1 := Lib.hid ex1; have HX3 := Lib.hid ex3
        have HY : Hid (par s.data.toList k = p ∧ y0 = 2 * p ∧ y1 = 2 * p + 1) := ⟨hpp, ey0, ey1⟩
        have hx2b : x2 ≤ 22 := by omega
        clear ex0 ex1 ex2 ex3 ey0 ey1 HM2
        obtain ⟨b, hbt⟩ : ∃ b, twoAt s.data.toList k = b := ⟨_, rfl⟩
        have HTW : Hid (tw s.data.toList k = if b then 1 else 0) := by rw [Hid, tw, hbt]
        have hbb : ((s[k].toNat : Int) != (s[p].toNat : Int)) = b := by
          rw [← hbt, twoAt, hpp, ← gb_at s hlt, ← gb_at s hps]
          have hle := (HW.out.isPar hkl).eq
          rw [hpp] at hle
          have h0 := (HW.out.ok k hkl).1
          by_cases es : sml (gb s.data.toList k) = sml (gb s.data.toList p)
          · rw [ltr_eq hle.symm es h0, bne_self_eq_false, bne_self_eq_false]
          · have : (sml (gb s.data.toList k) != sml (gb s.data.toList p)) = true := by simpa using es
            rw [this]
            simp only [bne_iff_ne, ne_eq]
            intro e
            have : gb s.data.toList k = gb s.data.toList p := UInt8.toNat_inj.1 (by omega)
            exact es (by rw [this])
        have HPP := Lib.hid hpp; clear hpp hbt
        cases b with
      | true =>
        have HG0 : Hid ((glE s.data.toList x0 : Int) = (y1 : Int)) := by
          have e1 := HX0.out; have e2 := HTW.out; have e3 := HY.out
          rw [Hid, e1, glE_even, e2]; simp; omega
        have HG1 : Hid ((glE s.data.toList x1 : Int) = (y0 : Int)) := by
          have e1 := HX1.out; have e2 := HTW.out; have e3 := HY.out
          rw [Hid, e1, glE_odd, e2]; simp; omega
        go_wp2_with fail
        go_quiet (fail)
        have hoA := ho.out.drewN nq
        have hoB := hn.out.drewN nq
        have hoP := hp.out.drewN nq
        have hbW := below_drewN hb.out nq
        obtain ⟨W, hWr⟩ : ∃ W, wr.drewN nq = W := ⟨_, rfl⟩
        rw [hWr] at hoA hoB hoP hbW
        rw [hWr]
        clear hWr
        obtain ⟨q1, e1, _, hm1, hf1⟩ := hoA.cellAt hgl hx0m
        simp only [Option.some.injEq, Addr.mk.injEq, and_true] at e1
        subst e1
        have S1 := hoA.stored hgl x0 (y1 : Int)
        obtain ⟨q2, e2, _, hm2, hf2⟩ := S1.1.cellAt (by rw [List.length_set]; exact hgl) hx1m
        simp only [Option.some.injEq, Addr.mk.injEq, and_true] at e2
        subst e2
        have S2 := S1.1.stored (by rw [List.length_set]; exact hgl) x1 (y0 : Int)
        have HG := Lib.hid (grownBy_trans S1.2 S2.2)
        have HS2 := Lib.hid S2.1
        have HOB := Lib.hid (hoB.grown HG.out (.inr (by simp [Value.ownBlock]; omega)))
        have HOP := Lib.hid (hoP.grown HG.out (.inr (by rw [HAP.out]; simp; omega)))
        have HBW := Lib.hid (hbW.grown HG.out hbW.size (fun r hr => by simp at hr; omega))
        clear hoA hoB hoP S1 S2
        go_wp2_with fail
        obtain ⟨W2, hW2⟩ : ∃ W2, (W.setCell ⟨g, x0, none⟩ (.int .i64 (y1 : Int))).setCell ⟨g, x1, none⟩ (.int .i64 (y0 : Int)) = W2 := ⟨_, rfl⟩
        rw [hW2] at HS2 HOB HOP HBW
        rw [hW2]
        have HWS : Hid (W.heap.size = W2.heap.size) := by rw [Hid, ← hW2]; simp
        clear hW2 HG hm1 hf1 hm2 hf2
        have HFS : Hid (Fill s.data.toList (k + 1) ((gl.set x0 (y1 : Int)).set x1 (y0 : Int)) ((nx.set x1 (x3 : Int)).set x3 (x1 : Int))) := by
          have h1 := hF.out.step hkl
          have e3 : (2 * k + 2) % (2 * s.data.toList.length) = x3 := by rw [len_str, ← HM.out]; exact HX3.out.symm
          rw [e3, ← HX1.out, ← HX0.out, HG0.out, HG1.out] at h1
          exact h1
        have hbs := HBW.out.size
        have hg2' := (HOB.out.lt g' rfl).2
        have hws := HWS.out
        refine (lead_two g' W.heap.size m m w.heap.size x1 x3 nx _ (World.ownsRow.alloc HOB.out _) hnl hx1m hx3m (by omega) (by rw [HWS.out, cell_of_row _ _ 0 _ _ (0, 0) (heap_alloc_new W2 _)]; rfl) (by rw [HWS.out, cell_of_row _ _ 1 _ _ (0, 0) (heap_alloc_new W2 _)]; rfl)).mono ?_
        rintro e w5 ⟨rfl, ho5, hg5⟩
        clear hws
        have HOA5 : Hid (Own w5 w.heap.size (.slice (some ⟨g, 0, none⟩) m m) ((gl.set x0 (y1 : Int)).set x1 (y0 : Int))) := Own.grown (World.ownsRow.alloc HS2.out _) hg5 (.inr (by simp [Value.ownBlock]; omega))
        have HOP5 : Hid (Own w5 wc.heap.size (.slice (some ⟨gp, 0, none⟩) s.size cp) (parL s.data.toList)) := Own.grown (World.ownsRow.alloc HOP.out _) hg5 (.inr (by rw [HAP.out]; simp; omega))
        have HBW5 : Hid (Below w.heap.size w w5) := (HBW.out.alloc hbs _).grown hg5 (by rw [World.size_alloc]; omega) (fun r hr => by simp at hr; omega)
        have HOB5 := Lib.hid ho5
        clear ho5 hg5 HS2 HOP HBW HOB
        go_wp2_with fail
        go_roundw
        case rel => exact ⟨k + 1, _, _, by omega, by go_num, HOA5.out, HOB5.out, HOP5.out, HBW5.out, HFS.out⟩
        case measure => simp [intOf]; omega
      | false =>
        have HG0 : Hid ((glE s.data.toList x0 : Int) = (y0 : Int)) := by
          have e1 := HX0.out; have e2 := HTW.out; have e3 := HY.out
          rw [Hid, e1, glE_even, e2]; simp; omega
        have HG1 : Hid ((glE s.data.toList x1 : Int) = (y1 : Int)) := by
          have e1 := HX1.out; have e2 := HTW.out; have e3 := HY.out
          rw [Hid, e1, glE_odd, e2]; simp; omega
        go_wp2_with fail
        go_quiet (fail)
        have hoA := ho.out.drewN nq
        have hoB := hn.out.drewN nq
        have hoP := hp.out.drewN nq
        have hbW := below_drewN hb.out nq
        obtain ⟨W, hWr⟩ : ∃ W, wr.drewN nq = W := ⟨_, rfl⟩
        rw [hWr] at hoA hoB hoP hbW
        rw [hWr]
        clear hWr
        obtain ⟨q1, e1, _, hm1, hf1⟩ := hoA.cellAt hgl hx0m
        simp only [Option.some.injEq, Addr.mk.injEq, and_true] at e1
        subst e1
        have S1 := hoA.stored hgl x0 (y0 : Int)
        obtain ⟨q2, e2, _, hm2, hf2⟩ := S1.1.cellAt (by rw [List.length_set]; exact hgl) hx1m
        simp only [Option.some.injEq, Addr.mk.injEq, and_true] at e2
        subst e2
        have S2 := S1.1.stored (by rw [List.length_set]; exact hgl) x1 (y1 : Int)
        have HG := Lib.hid (grownBy_trans S1.2 S2.2)
        have HS2 := Lib.hid S2.1
        have HOB := Lib.hid (hoB.grown HG.out (.inr (by simp [Value.ownBlock]; omega)))
        have HOP := Lib.hid (hoP.grown HG.out (.inr (by rw [HAP.out]; simp; omega)))
        have HBW := Lib.hid (hbW.grown HG.out hbW.size (fun r hr => by simp at hr; omega))
        clear hoA hoB hoP S1 S2
        go_wp2_with fail
        obtain ⟨W2, hW2⟩ : ∃ W2, (W.setCell ⟨g, x0, none⟩ (.int .i64 (y0 : Int))).setCell ⟨g, x1, none⟩ (.int .i64 (y1 : Int)) = W2 := ⟨_, rfl⟩
        rw [hW2] at HS2 HOB HOP HBW
        rw [hW2]
        have HWS : Hid (W.heap.size = W2.heap.size) := by rw [Hid, ← hW2]; simp
        clear hW2 HG hm1 hf1 hm2 hf2
        have HFS : Hid (Fill s.data.toList (k + 1) ((gl.set x0 (y0 : Int)).set x1 (y1 : Int)) ((nx.set x1 (x3 : Int)).set x3 (x1 : Int))) := by
          have h1 := hF.out.step hkl
          have e3 : (2 * k + 2) % (2 * s.data.toList.length) = x3 := by rw [len_str, ← HM.out]; exact HX3.out.symm
          rw [e3, ← HX1.out, ← HX0.out, HG0.out, HG1.out] at h1
          exact h1
        have hbs := HBW.out.size
        have hg2' := (HOB.out.lt g' rfl).2
        have hws := HWS.out
        refine (lead_two g' W.heap.size m m w.heap.size x1 x3 nx _ (World.ownsRow.alloc HOB.out _) hnl hx1m hx3m (by omega) (by rw [HWS.out, cell_of_row _ _ 0 _ _ (0, 0) (heap_alloc_new W2 _)]; rfl) (by rw [HWS.out, cell_of_row _ _ 1 _ _ (0, 0) (heap_alloc_new W2 _)]; rfl)).mono ?_
        rintro e w5 ⟨rfl, ho5, hg5⟩
        clear hws
        have HOA5 : Hid (Own w5 w.heap.size (.slice (some ⟨g, 0, none⟩) m m) ((gl.set x0 (y0 : Int)).set x1 (y1 : Int))) := Own.grown (World.ownsRow.alloc HS2.out _) hg5 (.inr (by simp [Value.ownBlock]; omega))
        have HOP5 : Hid (Own w5 wc.heap.size (.slice (some ⟨gp, 0, none⟩) s.size cp) (parL s.data.toList)) := Own.grown (World.ownsRow.alloc HOP.out _) hg5 (.inr (by rw [HAP.out]; simp; omega))
        have HBW5 : Hid (Below w.heap.size w w5) := (HBW.out.alloc hbs _).grown hg5 (by rw [World.size_alloc]; omega) (fun r hr => by simp at hr; omega)
        have HOB5 := Lib.hid ho5
        clear ho5 hg5 HS2 HOP HBW HOB
        go_wp2_with fail
        go_roundw
        case rel => exact ⟨k + 1, _, _, by omega, by go_num, HOA5.out, HOB5.out, HOP5.out, HBW5.out, HFS.out⟩
        case measure => simp [intOf]; omega
      · have hks : k = s.size := by omega
        have hfd : gl = gluW s.data.toList ∧ nx = nxtW s.data.toList.length := Fill.done (by have := hF.out; rw [hks, ← len_str s] at this; exact this) (by rw [len_str]; omega)
        have HFD := Lib.hid hfd
        obtain ⟨hv1, hv2⟩ := HW.out.ivl
        rw [← hfd.1] at hv1
        rw [← hfd.2] at hv2
        have hgl : gl.length = m := by rw [hF.out.lg, len_str, HM.out]
        have hnl : nx.length = m := by rw [hF.out.nl, len_str, HM.out]
        have hra := ho.out.rd hgl
        have hrb := hn.out.rd hnl
        have HC := Lib.hid (orbCount_any wr.heap.size (some ⟨g, 0, none⟩) (some ⟨g', 0, none⟩) m m m gl nx (wr.alloc (.cells #[.slice (some ⟨g', 0, none⟩) m m] 83)) (by rw [cell_of_row _ _ 0 _ _ (0, 0) (heap_alloc_new wr _)]; rfl) (hra.alloc _) (hrb.alloc _) hv1 hv2)
        clear hks hfd hv1 hv2 hgl hnl hra hrb
        go_wp2_with fail
        refine HC.out.mono ?_
        rintro e w6 ⟨rfl, b⟩
        have HB6 : Hid (Below w.heap.size w w6) := (hb.out.alloc hb.out.size _).trans (b.mono (by have := hb.out.size; rw [World.size_alloc]; omega))
        clear b
        go_wp2_with fail
        go_ret
        refine ⟨ret_intE ?_, HB6.out⟩
        rw [corN, corL, HFD.out.1, HFD.out.2, len_str, HM.out]

end Go.Proofs.YtmhalaleoklplaaDoor
