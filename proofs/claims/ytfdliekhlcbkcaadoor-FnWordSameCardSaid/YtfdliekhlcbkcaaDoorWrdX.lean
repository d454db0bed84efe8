/-
  Orbits of two involutions of at most 20 points: the model's and the program's.
  The program's corners: two rows are filled, orbits are counted.
  The model's corners.
  Words: corners, numbers, sides, gluings: what the laws ask of the model and of the program.
  Words: numbers, sides, gluings: what the laws ask of the model and of the program.
-/
import Derived.Test.YtfdliekhlcbkcaaDoorWrdN
import Derived.Test.YtfdliekhlcbkcaaDoorSpecOrb
import Derived.Test.YtfdliekhlcbkcaaDoorImplOrb
import Derived.Test.YtfdliekhlcbkcaaDoorWrdP
import Derived.Deep.RegionLaw
import Derived.Deep.DeepCutAuto
import Derived.Test.YtfdliekhlcbkcaaDoorWrdI
import Derived.Test.YtfdliekhlcbkcaaDoorKit
namespace Go.Proofs.YtfdliekhlcbkcaaDoor
open Go.RowKit

theorem Ivl.into {p : List Int} (h : Ivl p) {m : Nat} (hm : p.length = m) : Into p m := fun j hj => by rw [← hm]; exact h.2.2.1 j hj

set_option maxHeartbeats 800000 in
theorem l1Orbits_anyI (A A' : Option Addr) (n c c' : Nat) (xs ys : List Int) (w : World) (h : Rd w A n xs) (h' : Rd w A' n ys) (hp : Ivl xs) (hq : Ivl ys) :
    Calls Tryd.prog 88 #[.slice A n c, .slice A' n c'] w fun e w' => ∃ v, e = .returned v ∧ Own w' w.heap.size v (orbL xs ys) ∧ Below w.heap.size w w' := by
  have hn1 : 1 ≤ n := by rw [← h.1]; exact hp.1
  have hn12 : n ≤ 20 := by rw [← h.1]; exact hp.2.1
  have HP := Lib.hid hp; have HQ := Lib.hid hq
  have HL : Hid (xs.length = ys.length) := by rw [Hid, h.1, h'.1]
  have H := Lib.hid h; have H' := Lib.hid h'
  have Hx := Lib.hid h.1; have Hy := Lib.hid h'.1; clear h h' hp hq
  go_enter Tryd.func88, Tryd.ntmps88
  go_wp2_with fail
  refine (l1Same_any n w (by omega)).mono ?_
  rintro e w1 ⟨v1, rfl, o, b⟩
  obtain ⟨A1, c1, rfl, -, -⟩ := o.form' (marks_len 0 n)
  obtain ⟨g, rfl, hg, -, -⟩ := o.cellAt (marks_len 0 n) (k := 0) (by omega)
  have HO := Lib.hid o; have HB := Lib.hid b; clear o b
  go_wp2_with fail
  go_loopw [6, 7, 8] (fun r _ _ wr => ∃ (k : Nat) (out : List Int), k ≤ n ∧ r = .int .i64 k ∧ Hid (Own wr w.heap.size (.slice (some ⟨g, 0, none⟩) n c1) out) ∧ Hid (Below w.heap.size w wr) ∧ Hid (Rounds xs ys k out)) (fun r _ _ _ => n - (intOf r).toNat)
  case atStart => exact ⟨0, _, Nat.zero_le _, rfl, HO, HB, Rounds.start (by rw [marks_len, Hx.out]) (fun j hj => by rw [gi_marks (by rw [← Hx.out]; exact hj)]; omega)⟩
  case round =>
    obtain ⟨k, out0, hk, rfl, ho, hb, hr⟩ := hrel
    clear HO HB
    by_cases hlt : k < n
    · go_wp2_with fail
      go_loopw [7, 8] (fun i _ wr => ∃ (m : Nat) (out : List Int), m ≤ n ∧ i = .int .i64 m ∧ Hid (Own wr w.heap.size (.slice (some ⟨g, 0, none⟩) n c1) out) ∧ Hid (Below w.heap.size w wr) ∧ Hid (Relax xs ys out0 m out)) (fun i _ _ => n - (intOf i).toNat)
      case atStart => exact ⟨0, out0, Nat.zero_le _, rfl, ho, hb, Relax.start hr.out.len hr.out.ge⟩
      case round =>
        clear ho hb
        obtain ⟨m, out, hm, rfl, ho, hb, hx⟩ := hrel
        have hol : out.length = n := by rw [hx.out.len, Hx.out]
        have HOL := Lib.hid hol; clear hol
        by_cases hlt2 : m < n
        · obtain ⟨ad, rfl, hc⟩ := (H.out.below hb.out).at_ hlt2
          obtain ⟨ad', rfl, hc'⟩ := (H'.out.below hb.out).at_ hlt2
          obtain ⟨x, hgx, hxn, hgnx⟩ := (HP.out.into Hx.out).nat (j := m) (by rw [Hx.out]; exact hlt2)
          obtain ⟨y, hgy, hyn, hgny⟩ := (HQ.out.into Hy.out).nat (j := m) (by rw [Hy.out]; exact hlt2)
          rw [hgx] at hc
          rw [hgy] at hc'
          obtain ⟨g1, e1, _, hm1, hf1⟩ := ho.out.cellAt HOL.out hlt2
          obtain ⟨g2, e2, _, hm2, hf2⟩ := ho.out.cellAt HOL.out hxn
          obtain ⟨g3, e3, _, hm3, hf3⟩ := ho.out.cellAt HOL.out hyn
          simp only [Option.some.injEq, Addr.mk.injEq, and_true] at e1 e2 e3
          subst e1 e2 e3
          have HGX := Lib.hid hgx; have HGY := Lib.hid hgy; have HGNX := Lib.hid hgnx; have HGNY := Lib.hid hgny; clear hgx hgy hgnx hgny
          go_wp2
          go_quiet (fail)
          generalize hv : min (gi out m) (min (gi out x) (gi out y)) = v
          have HVV := Lib.hid hv; clear hv
          obtain ⟨W, hW⟩ : ∃ W, wr.drewN nq = W := ⟨_, rfl⟩
          have ho0 : Own W w.heap.size (.slice (some ⟨g, 0, none⟩) n c1) out := hW ▸ ho.out.drewN nq
          have hb0 : Below w.heap.size w W := hW ▸ below_drewN hb.out nq
          rw [hW]
          clear hc hc' hm1 hm2 hm3 hf1 hf2 hf3 ho hb hW
          obtain ⟨g1, e1, _, hm1, hf1⟩ := ho0.cellAt HOL.out hlt2
          simp only [Option.some.injEq, Addr.mk.injEq, and_true] at e1
          subst e1
          have S1 := (ho0.stored HOL.out m v).1
          have B1 : Below w.heap.size w (W.setCell ⟨g, m, none⟩ (.int .i64 v)) := hb0.setCell hg _
          obtain ⟨g2, e2, _, hm2, hf2⟩ := S1.cellAt (by simpa using HOL.out) hxn
          obtain ⟨ad2, e3, hc2⟩ := (H.out.below B1).at_ hlt2
          rw [HGX.out] at hc2
          simp only [Option.some.injEq, Addr.mk.injEq, and_true] at e2 e3
          subst e2 e3
          have S2 := (S1.stored (by simpa using HOL.out) x v).1
          have B2 := B1.setCell (p := ⟨g, x, none⟩) hg (.int .i64 v)
          obtain ⟨g3, e2, _, hm3, hf3⟩ := S2.cellAt (by simpa using HOL.out) hyn
          obtain ⟨ad3, e3, hc3⟩ := (H'.out.below B2).at_ hlt2
          rw [HGY.out] at hc3
          simp only [Option.some.injEq, Addr.mk.injEq, and_true] at e2 e3
          subst e2 e3
          have S3 := Lib.hid (S2.stored (by simpa using HOL.out) y v).1
          have B3 := Lib.hid (B2.setCell (p := ⟨g, y, none⟩) hg (.int .i64 v))
          clear S1 S2 B1 B2 ho0 hb0
          go_wp2
          go_roundw
          case rel =>
            refine ⟨m + 1, _, by omega, by go_num, S3.out, B3.out, ?_⟩
            have h1 := HVV.out
            have := hx.out.stepI HP.out HQ.out HL.out (v := v) (by rw [Hx.out]; exact hlt2) (by omega) (by rw [HGNX.out]; omega) (by rw [HGNY.out]; omega) (by rw [HGNX.out, HGNY.out]; omega)
            rw [HGNX.out, HGNY.out] at this
            exact this
          case measure => simp [intOf]; omega
        · have hmn : m = n := by omega
          subst hmn
          go_wp2
          go_roundw
          case rel =>
            refine ⟨k + 1, out, by omega, by go_num, ho, hb, ?_⟩
            have := hx.out
            rw [← Hx.out] at this
            exact hr.out.nextI HP.out HQ.out HL.out (by rw [Hx.out]; exact hlt) this
          case measure => simp [intOf]; omega
    · have hkn : k = n := by omega
      have HK := Lib.hid hkn; clear hkn
      go_wp2
      go_ret
      refine ⟨_, rfl, ?_, hb.out⟩
      have e : out0 = orbL xs ys := Rounds.done (by have := hr.out; rw [HK.out, ← Hx.out] at this; exact this)
      rw [← e]; exact ho.out

set_option maxRecDepth 100000 in
set_option maxHeartbeats 1600000 in
theorem orbits_anyI (b0 : Nat) (A A' : Option Addr) (n c c' : Nat) (xs ys : List Int) (w : World) (hv0 : w.cell? ⟨b0, 0, none⟩ = some (.slice A' n c')) (h : Rd w A n xs) (h' : Rd w A' n ys) (hp : Ivl xs) (hq : Ivl ys) :
    Calls Tryd.prog 105 #[.slice A n c, .slice (some ⟨b0, 0, none⟩) 1 1] w fun e w' => ∃ v, e = .returned v ∧ Own w' w.heap.size v (orbL xs ys) ∧ Below w.heap.size w w' := by
  obtain ⟨i0, hinf, hz0, hz1, hz2⟩ := info_parts info_int
  have hn1 : 1 ≤ n := by rw [← h.1]; exact hp.1
  have hn12 : n ≤ 20 := by rw [← h.1]; exact hp.2.1
  have HP := Lib.hid hp; have HQ := Lib.hid hq
  have HL : Hid (xs.length = ys.length) := by rw [Hid, h.1, h'.1]
  have H := Lib.hid h; have H' := Lib.hid h'
  have Hx := Lib.hid h.1; have Hy := Lib.hid h'.1; clear h h' hp hq
  have HV0 := Lib.hid hv0; have HVB := Lib.hid (World.block_lt_of_cell? w _ hv0); clear hv0
  have HZ := Lib.hid (And.intro hz1 hz2)
  go_enter Tryd.func105, Tryd.ntmps105
  go_wp2_with fail
  refine (repeat_int (some ⟨w.heap.size, 0, none⟩) 1 n (-1) _ ⟨rfl, fun _ => ⟨_, rfl, fun j hj => by
    obtain rfl : j = 0 := by omega
    exact cell_one_new _ _ _ 0 _ rfl⟩⟩ hn1 (by omega)).mono ?_
  rintro e w1 ⟨v1, rfl, o, b⟩
  obtain ⟨A1, c1, rfl, -, -⟩ := o.form' (List.length_replicate ..)
  obtain ⟨g, rfl, hg, -, -⟩ := o.cellAt (List.length_replicate ..) (k := 0) (by omega)
  have HO := Lib.hid (o.mono (lo' := w.heap.size) (by simp)); have HB : Hid (Below w.heap.size w w1) := ((Below.refl _ _).alloc (Nat.le_refl _) _).trans (b.mono (by simp)); clear o b
  have hgw : w.heap.size ≤ g := by simp at hg; omega
  clear hg
  go_wp2_with fail
  go_loopw [17] (fun i wr => ∃ (k : Nat) (ls : List Int), k ≤ n ∧ i = .int .i64 k ∧ Hid (Own wr w.heap.size (.slice (some ⟨g, 0, none⟩) n c1) ls) ∧ Hid (Below w.heap.size w wr) ∧ Hid (Firsts xs ys k ls)) (fun i _ => n - (intOf i).toNat)
  case atStart => exact ⟨0, _, Nat.zero_le _, rfl, HO, HB, Firsts.start (by rw [Hx.out]; simp) (fun j hj => gi_replicate (by rw [← Hx.out]; exact hj))⟩
  case round =>
    obtain ⟨k, ls0, hk, rfl, ho, hb, hf⟩ := hrel
    clear HO HB
    have hbs := hb.out.size
    have hgr : g < wr.heap.size := (ho.out.lt g rfl).2
    by_cases hlt : k < n
    · go_wp2_with fail
      go_loopw [7] (fun ov wx' => ∃ (wx : World) (A2 : Option Addr) (L c2 : Nat) (st ls : List Int), wx = wx' ∧ ov = .slice A2 L c2 ∧ L + 2 * bare ls ≤ 41 ∧ Hid (st.length = L) ∧ Hid (Own wx wr.heap.size (.slice A2 L c2) st) ∧ Hid (Own wx w.heap.size (.slice (some ⟨g, 0, none⟩) n c1) ls) ∧ Hid (Below w.heap.size w wx) ∧ Hid (Search xs ys k ls st) ∧ Hid (wr.heap.size ≤ wx.heap.size)) (fun ov wx => 2 * bareOf wx g n c1 + slen ov)
      case atStart =>
        refine ⟨_, _, 1, 1, [(k : Int)], ls0, rfl, rfl, ?_, rfl, ?_, ho.out.below ((Below.refl _ _).alloc (Nat.le_refl _) _), hb.out.alloc hbs _, hf.out.search (by rw [Hx.out]; exact hlt), by simp [Hid]⟩
        · have : bare ls0 ≤ ls0.length := List.count_le_length
          rw [hf.out.len, Hx.out] at this
          omega
        · exact World.ownsRow_lit wr #[.int .i64 (k : Int)] 1 (Nat.le_refl _) (by unfold maxLen; omega) rfl
      case round =>
        clear ho hb
        obtain ⟨wx, A2, L, c2, st, ls, rfl, rfl, hL, hst, hos, ho, hb, hse, hsz⟩ := hrel
        have hll : ls.length = n := by rw [hse.out.len, Hx.out]
        have HLL := Lib.hid hll; clear hll
        cases L with
        | zero =>
          obtain rfl : st = [] := List.eq_nil_of_length_eq_zero hst.out
          go_wp2
          go_roundw
          case rel => exact ⟨k + 1, ls, by omega, by go_num, ho, hb, hse.out.doneI HP.out HQ.out HL.out⟩
          case measure => simp [intOf]; omega
        | succ L =>
          obtain ⟨st, s, rfl, hsl⟩ := snoc_of hst.out
          obtain ⟨x, rfl, hxn, -⟩ := hse.out.stk s (by simp)
          rw [Hx.out] at hxn
          obtain ⟨g2, rfl, hg2, hc3, -⟩ := hos.out.cellAt hst.out (k := L) (by omega)
          rw [gi_last hsl] at hc3
          obtain ⟨g1, e1, _, hc4, hf4⟩ := ho.out.cellAt HLL.out hxn
          simp only [Option.some.injEq, Addr.mk.injEq, and_true] at e1
          subst e1
          obtain ⟨_, _, _, hLc, _, _⟩ := hos.out.heap hst.out
          have hLc : L ≤ c2 := by omega
          have HSL := Lib.hid hsl; clear hsl
          by_cases hm : gi ls x = -1
          · have hd : decide (0 ≤ gi ls x) = false := by rw [hm]; rfl
            obtain ⟨ad, rfl, hp1⟩ := (H.out.below hb.out).at_ hxn
            obtain ⟨ad', rfl, hp2⟩ := (H'.out.below hb.out).at_ hxn
            have S1 := (ho.out.stored HLL.out x (k : Int)).1
            have G1 := (ho.out.stored HLL.out x (k : Int)).2
            have B1 : Below w.heap.size w (wx.setCell ⟨g, x, none⟩ (.int .i64 (k : Int))) := hb.out.setCell hgw _
            have O1 := (hos.out.cut HSL.out).grown G1 (.inr (fun e => by simp [Value.ownBlock] at e; omega))
            obtain ⟨y, hy, hyn, -⟩ := (HP.out.into Hx.out).nat (j := x) (by rw [Hx.out]; exact hxn)
            obtain ⟨z, hz, hzn, -⟩ := (HQ.out.into Hy.out).nat (j := x) (by rw [Hy.out]; exact hxn)
            obtain ⟨a1, e1, hq1⟩ := (H.out.below B1).at_ hxn
            obtain ⟨a2, e2, hq2⟩ := (H'.out.below B1).at_ hxn
            simp only [Option.some.injEq] at e1 e2
            subst e1 e2
            rw [hy] at hq1
            rw [hz] at hq2
            have HS1 := Lib.hid S1; have HB1 := Lib.hid B1; have HO1 := Lib.hid O1; have HY := Lib.hid hy; have HZZ := Lib.hid hz; have HM := Lib.hid hm
            clear S1 G1 B1 O1 hy hz hp1 hp2 hm hq2
            have hbx := hb.out.size
            have hwrx : wr.heap.size ≤ wx.heap.size := hsz.out
            have hg2w : wr.heap.size ≤ g2 := (hos.out.lt g2 rfl).1
            obtain ⟨W1, hW1⟩ : ∃ W1, wx.setCell ⟨g, x, none⟩ (.int .i64 (k : Int)) = W1 := ⟨_, rfl⟩
            rw [hW1] at HS1 HB1 HO1 hq1
            have hs1 : W1.heap.size = wx.heap.size := by rw [← hW1]; simp
            have hs1' : wx.heap.size ≤ W1.heap.size := by omega
            have HOA : Hid (W1.ownsRow wr.heap.size 3 1 (.slice (some ⟨g2, 0, none⟩) L c2) L (ints st)) := by
              have h1 := HO1.out
              unfold Own at h1
              rwa [HSL.out] at h1
            have HSW := Lib.hid hs1; clear hs1
            go_wp2_with (at_builtin; refine wpList_append_own _ rfl (.tmp 45) (.tmp 50) 27 rfl wr.heap.size 3 i0 (.int .i64 0) 1 8 Tryd.underlying27 hinf hz0 hz1 hz2 rfl (by decide) (.slice (some ⟨g2, 0, none⟩) L c2) L (ints st) rfl (HOA.out.alloc _) ⟨W1.heap.size, 0, none⟩ 1 1 [.int .i64 (y : Int)] rfl rfl (cell_one_new _ _ _) (by intro u hu; simp at hu; subst hu; rfl) (by unfold maxLen; omega) (by omega) (by rw [World.size_alloc]; omega) ?_; intro v3 w3 hown3 hgrow3 _; have HN3 := Lib.hid hown3; have HG3 := Lib.hid hgrow3; clear hown3 hgrow3)
            clear hW1
            have hst3 : Own w3 wr.heap.size v3 (st ++ [(y : Int)]) := by
              have h1 := HN3.out
              unfold Own
              rw [List.length_append, HSL.out, ints, List.map_append]
              exact h1
            obtain ⟨A3, c3, rfl, -, -⟩ := hst3.form' (n := L + 1) (by rw [List.length_append, HSL.out]; rfl)
            obtain ⟨g3, rfl, -, -, -⟩ := hst3.cellAt (n := L + 1) (by rw [List.length_append, HSL.out]; rfl) (k := 0) (by omega)
            have HST3 := Lib.hid hst3; clear hst3
            have HLS3 : Hid (Own w3 w.heap.size (.slice (some ⟨g, 0, none⟩) n c1) (ls.set x (k : Int))) :=
              Own.grown (World.ownsRow.alloc HS1.out _) HG3.out (.inr (fun e => by simp [Value.ownBlock] at e; omega))
            have HB3 : Hid (Below w.heap.size w w3) := (HB1.out.alloc (by omega) _).grown HG3.out (by rw [World.size_alloc]; omega) (fun r hr => by simp [Value.ownBlock] at hr; omega)
            have HSZ3 : Hid (wr.heap.size ≤ w3.heap.size) := by
              have := HG3.out.size
              rw [World.size_alloc] at this
              rw [Hid]; omega
            go_loopw [7, 54] (fun ov jv wz' => ∃ (wz : World) (j g4 c4 : Nat), wz = wz' ∧ j ≤ 1 ∧ ov = .slice (some ⟨g4, 0, none⟩) (L + 1 + j) c4 ∧ jv = .int .i64 j ∧ Hid (Own wz wr.heap.size (.slice (some ⟨g4, 0, none⟩) (L + 1 + j) c4) (st ++ [(y : Int), (z : Int)].take (j + 1))) ∧ Hid (Own wz w.heap.size (.slice (some ⟨g, 0, none⟩) n c1) (ls.set x (k : Int))) ∧ Hid (Below w.heap.size w wz) ∧ Hid (wr.heap.size ≤ wz.heap.size)) (fun _ jv _ => 1 - (intOf jv).toNat)
            case atStart => exact ⟨_, 0, g3, c3, rfl, by omega, rfl, rfl, HST3.out, HLS3.out, HB3.out, HSZ3.out⟩
            case round =>
              obtain ⟨wz, j, g4, c4, rfl, hj, rfl, rfl, ho4, hls4, hb4, hsz4⟩ := hrel
              by_cases hj1 : j < 1
              · have hj0 : j = 0 := by omega
                subst hj0
                have hcv : wz.cell? ⟨b0, 0, none⟩ = some (.slice (some ad') n c') := (hb4.out.cell HVB.out).trans HV0.out
                obtain ⟨_, e3, hq3⟩ := (H'.out.below hb4.out).at_ hxn
                simp only [Option.some.injEq] at e3
                subst e3
                rw [HZZ.out] at hq3
                have HOA4 : Hid (wz.ownsRow wr.heap.size 3 1 (.slice (some ⟨g4, 0, none⟩) (L + 1 + 0) c4) (L + 1 + 0) (ints (st ++ [(y : Int), (z : Int)].take (0 + 1)))) := by
                  have h1 := ho4.out
                  unfold Own at h1
                  rwa [show (st ++ [(y : Int), (z : Int)].take (0 + 1)).length = L + 1 + 0 from by simp [HSL.out]] at h1
                have hsz4' := hsz4.out
                go_wp2_with (at_builtin; refine wpList_append_own _ rfl (.tmp 58) (.tmp 63) 27 rfl wr.heap.size 3 i0 (.int .i64 0) 1 8 Tryd.underlying27 hinf hz0 hz1 hz2 rfl (by decide) (.slice (some ⟨g4, 0, none⟩) (L + 1 + 0) c4) _ _ rfl (HOA4.out.alloc _) ⟨wz.heap.size, 0, none⟩ 1 1 [.int .i64 (z : Int)] rfl rfl (cell_one_new _ _ _) (by intro u hu; simp at hu; subst hu; rfl) (by unfold maxLen; omega) (by omega) (by rw [World.size_alloc]; omega) ?_; intro v5 w5 hown5 hgrow5 _; have HN5 := Lib.hid hown5; have HG5 := Lib.hid hgrow5; clear hown5 hgrow5)
                have hlen5 : (st ++ [(y : Int), (z : Int)].take (0 + 1 + 1)).length = L + 1 + (0 + 1) := by simp [HSL.out]
                have hst5 : Own w5 wr.heap.size v5 (st ++ [(y : Int), (z : Int)].take (0 + 1 + 1)) := by
                  have h1 := HN5.out
                  unfold Own
                  rw [hlen5]
                  simpa [ints] using h1
                obtain ⟨A5, c5, rfl, -, -⟩ := hst5.form' hlen5
                obtain ⟨g5, rfl, -, -, -⟩ := hst5.cellAt hlen5 (k := 0) (by omega)
                have HST5 := Lib.hid hst5; clear hst5 hlen5
                have hgw4 : wr.heap.size ≤ g4 := (ho4.out.lt g4 rfl).1
                have HLS5 : Hid (Own w5 w.heap.size (.slice (some ⟨g, 0, none⟩) n c1) (ls.set x (k : Int))) :=
                  Own.grown (World.ownsRow.alloc hls4.out _) HG5.out (.inr (fun e => by simp [Value.ownBlock] at e; omega))
                have HB5 : Hid (Below w.heap.size w w5) := (hb4.out.alloc (by omega) _).grown HG5.out (by rw [World.size_alloc]; omega) (fun r hr => by simp [Value.ownBlock] at hr; omega)
                have HSZ5 : Hid (wr.heap.size ≤ w5.heap.size) := by
                  have := HG5.out.size
                  rw [World.size_alloc] at this
                  rw [Hid]; omega
                go_roundw
                case rel => exact ⟨_, 1, g5, c5, rfl, by omega, rfl, by go_num, HST5.out, HLS5.out, HB5.out, HSZ5.out⟩
                case measure => simp [intOf]
              · have hj1' : j = 1 := by omega
                subst hj1'
                have HSE3 : Hid (Search xs ys k (ls.set x (k : Int)) (st ++ [(y : Int), (z : Int)])) := by
                  have := hse.out.new_markI HP.out HQ.out HL.out HM.out
                  rw [gn_of HY.out, gn_of HZZ.out] at this
                  exact this
                have hbs3 := bare_set (v := (k : Int)) (by rw [HLL.out]; exact hxn) HM.out (by omega)
                go_wp2_with fail
                go_roundw
                case rel => exact ⟨_, _, L + 1 + 1, c4, _, _, rfl, rfl, by omega, by simp [Hid, HSL.out], ho4.out, hls4.out, hb4.out, HSE3.out, hsz4.out⟩
                case measure =>
                  rw [bareOf_eq hls4.out (by simpa using HLL.out), bareOf_eq ho.out HLL.out]
                  simp [slen]; omega
          · have hd : decide (0 ≤ gi ls x) = true := by
              rcases hse.out.val x (by rw [Hx.out]; exact hxn) with h | h
              · exact absurd h hm
              · rw [h.1]; simp
            have HM := Lib.hid hm; clear hm
            have HC := Lib.hid (hos.out.cut HSL.out)
            go_wp2
            go_roundw
            case rel => exact ⟨_, _, L, c2, st, ls, rfl, rfl, by omega, HSL, HC, ho, hb, hse.out.old_mark HM.out, hsz⟩
            case measure => simp [slen]
    · have hkn : k = n := by omega
      have HK := Lib.hid hkn; clear hkn
      go_wp2
      go_ret
      refine ⟨_, rfl, ?_, hb.out⟩
      have e : ls0 = orbL xs ys := Firsts.done (by have := hf.out; rw [HK.out, ← Hx.out] at this; exact this)
      rw [← e]; exact ho.out

end Go.Proofs.YtfdliekhlcbkcaaDoor

namespace Go.Proofs.YtfdliekhlcbkcaaDoor
open Go.RowKit

/-- The list after k of the two stores of a cycle of two. -/
def leadK (xs : List Int) (x y : Nat) : Nat → List Int
  | 0 => xs
  | 1 => xs.set x (y : Int)
  | _ => (xs.set x (y : Int)).set y (x : Int)
theorem leadK_len (xs : List Int) (x y k : Nat) : (leadK xs x y k).length = xs.length := by
  match k with
  | 0 => rfl
  | 1 => simp [leadK]
  | _ + 2 => simp [leadK]

set_option maxHeartbeats 800000 in
theorem lead_two (g b n c lo x y : Nat) (xs : List Int) (w : World) (h : Own w lo (.slice (some ⟨g, 0, none⟩) n c) xs) (hxl : xs.length = n) (hx : x < n) (hy : y < n) (hgb : b ≠ g)
    (h0 : w.cell? ⟨b, 0, none⟩ = some (.int .i64 (x : Int))) (h1 : w.cell? ⟨b, 1, none⟩ = some (.int .i64 (y : Int))) :
    Calls Tryd.prog 86 #[.slice (some ⟨g, 0, none⟩) n c, .slice (some ⟨b, 0, none⟩) 2 2] w fun e w' => e = .returned (.tuple #[]) ∧ Own w' lo (.slice (some ⟨g, 0, none⟩) n c) ((xs.set x (y : Int)).set y (x : Int)) ∧ w.grownBy w' (some g) := by
  have HO := Lib.hid h; have HX := Lib.hid hxl; have HB := Lib.hid (World.block_lt_of_cell? w _ h0)
  have H0 := Lib.hid h0; have H1 := Lib.hid h1; clear h hxl h0 h1
  go_enter Tryd.func86, Tryd.ntmps86
  go_wp2_with fail
  go_loopw [8] (fun kv wr => ∃ k : Nat, k ≤ 2 ∧ kv = .int .i64 k ∧ Hid (Own wr lo (.slice (some ⟨g, 0, none⟩) n c) (leadK xs x y k)) ∧ Hid (w.grownBy wr (some g))) (fun kv _ => 2 - (intOf kv).toNat)
  case atStart => exact ⟨0, by omega, rfl, HO.out, World.grownBy.refl _ _⟩
  case round =>
    obtain ⟨k, hk, rfl, ho, hg⟩ := hrel
    have hb : ∀ o, wr.cell? ⟨b, o, none⟩ = w.cell? ⟨b, o, none⟩ := fun o => World.cell?_of_block (hg.out.block b HB.out (fun e => hgb (by injection e)))
    have c0 := (hb 0).trans H0.out
    have c1 := (hb 1).trans H1.out
    have hll : (leadK xs x y k).length = n := (leadK_len _ _ _ _).trans HX.out
    clear hb
    by_cases hk0 : k = 0
    · subst hk0
      obtain ⟨g1, e1, _, hm1, hf1⟩ := ho.out.cellAt hll hx
      simp only [Option.some.injEq, Addr.mk.injEq, and_true] at e1
      subst e1
      have S := Lib.hid (ho.out.stored hll x (y : Int))
      clear hll
      go_wp2_with fail
      go_roundw
      case rel => exact ⟨1, by omega, rfl, S.out.1, grownBy_trans hg.out S.out.2⟩
      case measure => simp [intOf]
    · by_cases hk1 : k = 1
      · subst hk1
        obtain ⟨g1, e1, _, hm1, hf1⟩ := ho.out.cellAt hll hy
        simp only [Option.some.injEq, Addr.mk.injEq, and_true] at e1
        subst e1
        have S := Lib.hid (ho.out.stored hll y (x : Int))
        clear hll hk0
        go_wp2_with fail
        go_roundw
        case rel => exact ⟨2, by omega, rfl, S.out.1, grownBy_trans hg.out S.out.2⟩
        case measure => simp [intOf]
      · have hk2 : k = 2 := by omega
        subst hk2
        clear hll hk0 hk1
        go_wp2_with fail
        exact bodyPost_end (by simp [results, Tryd.results86, go_sem]) rfl ⟨rfl, ho.out, hg.out⟩

set_option maxHeartbeats 800000 in
theorem orbCount_any (b0 : Nat) (A A' : Option Addr) (n c c' : Nat) (xs ys : List Int) (w : World) (hv0 : w.cell? ⟨b0, 0, none⟩ = some (.slice A' n c')) (h : Rd w A n xs) (h' : Rd w A' n ys) (hp : Ivl xs) (hq : Ivl ys) :
    Calls Tryd.prog 87 #[.slice A n c, .slice (some ⟨b0, 0, none⟩) 1 1] w fun e w' => e = .returned (.int .i64 (fixN (orbL xs ys) n : Int)) ∧ Below w.heap.size w w' := by
  have Hx := Lib.hid h.1
  have hn20 : n ≤ 20 := by rw [← h.1]; exact hp.2.1
  have HC := Lib.hid (orbits_anyI b0 A A' n c c' xs ys w hv0 h h' hp hq)
  clear hv0 h h' hp hq
  go_enter Tryd.func87, Tryd.ntmps87
  go_wp2_with fail
  refine HC.out.mono ?_
  rintro e w1 ⟨v, rfl, o, b⟩
  have hol : (orbL xs ys).length = n := by rw [orbL_len]; exact Hx.out
  obtain ⟨A1, c1, rfl, hr, -⟩ := o.form' hol
  have HR := Lib.hid hr; have HB := Lib.hid b; clear o b hr hol
  obtain ⟨ls, hls⟩ : ∃ ls, orbL xs ys = ls := ⟨_, rfl⟩
  rw [hls] at HR
  have HLS := Lib.hid hls; clear hls
  go_wp2_with fail
  go_loop [5, 12] (fun cv kv => ∃ k q : Nat, k ≤ n ∧ q ≤ k ∧ kv = .int .i64 k ∧ cv = .int .i64 q ∧ Hid (q = fixN ls k)) (fun _ kv => n - (intOf kv).toNat)
  case atStart => exact ⟨0, 0, Nat.zero_le _, Nat.le_refl _, rfl, rfl, rfl⟩
  case round =>
    obtain ⟨k, q, hk, hqk, rfl, rfl, hq⟩ := hrel
    by_cases hlt : k < n
    · obtain ⟨ad, rfl, hc⟩ := HR.out.at_ hlt
      have hs := fixN_succ ls k
      rw [← hq.out] at hs
      have HS := Lib.hid hs; clear hs
      obtain ⟨z, hz⟩ : ∃ z, gi ls k = z := ⟨_, rfl⟩
      rw [hz] at hc
      have HZ := Lib.hid hz; clear hz
      by_cases e : z = (k : Int)
      · have d : ((k : Int) == z) = true := by simp [e]
        have HE := Lib.hid e; clear e
        go_wp2_with fail
        go_round
        case rel => exact ⟨k + 1, q + 1, by omega, by omega, by go_num, by go_num, by rw [Hid, HS.out, if_pos (HZ.out.trans HE.out)]⟩
        case measure => simp [intOf]; omega
      · have d : ((k : Int) == z) = false := by simp; omega
        have HE := Lib.hid e; clear e
        go_wp2_with fail
        go_round
        case rel => exact ⟨k + 1, q, by omega, by omega, by go_num, rfl, by rw [Hid, HS.out, if_neg (fun e => HE.out (HZ.out.symm.trans e))]; rfl⟩
        case measure => simp [intOf]; omega
    · have hkn : k = n := by omega
      have HK := Lib.hid hkn; clear hkn
      go_wp2_with fail
      go_ret
      exact ⟨ret_intE (by rw [HLS.out, hq.out, HK.out]), HB.out⟩

/-- A row of n noughts made. -/
theorem make_run (w : World) (T : TypeId) (hT : Tryd.prog.underlying T = some (.slice 3)) (n : Nat) (hn : n ≤ 1048576) :
    ∃ w', (Instr.makeSlice T (.int .i64 (n : Int)) (.int .i64 (n : Int))).run Tryd.prog w = .ok (.slice (some ⟨w.heap.size, 0, none⟩) n n) w' ∧ Own w' w.heap.size (.slice (some ⟨w.heap.size, 0, none⟩) n n) (List.replicate n 0) ∧ w.grownBy w' none := by
  obtain ⟨i0, hinf, hz0, hz1, hz2⟩ := info_parts info_int
  obtain ⟨w', hrun, r1, r2⟩ := run_make_full (P := Tryd.prog) w w.heap.size T 3 i0 (.int .i64 0) 1 hT hinf hz0 hz1 .i64 .i64 n (by rw [hz2]; omega) (by unfold maxLen; omega) (Nat.le_refl _)
  exact ⟨w', hrun, Own.made r1, r2⟩

def TwoRows (w wx : World) (n : Nat) (v v' : Value) : Prop := ∃ g g', v = .slice (some ⟨g, 0, none⟩) n n ∧ v' = .slice (some ⟨g', 0, none⟩) n n ∧ g ≠ g' ∧ Own wx w.heap.size v (List.replicate n 0) ∧ Own wx w.heap.size v' (List.replicate n 0) ∧ Below w.heap.size w wx
theorem two_rows {w wa wb : World} {n : Nat} {g g' : Nat} (hg : g = w.heap.size) (hg' : g' = wa.heap.size) (ha : Own wa w.heap.size (.slice (some ⟨g, 0, none⟩) n n) (List.replicate n 0)) (hga : w.grownBy wa none) (hb : Own wb wa.heap.size (.slice (some ⟨g', 0, none⟩) n n) (List.replicate n 0)) (hgb : wa.grownBy wb none) :
    g ≠ g' ∧ Own wb w.heap.size (.slice (some ⟨g, 0, none⟩) n n) (List.replicate n 0) ∧ Own wb w.heap.size (.slice (some ⟨g', 0, none⟩) n n) (List.replicate n 0) ∧ Below w.heap.size w wb := by
  have h1 := (ha.lt g rfl).2
  refine ⟨by omega, ha.grown hgb (.inr (by simp [Value.ownBlock])), hb.mono hga.size, ?_⟩
  exact (below_of_grown hga (Nat.le_refl _) (fun k hk => by cases hk)).grown hgb hga.size (fun k hk => by cases hk)

set_option maxRecDepth 20000 in
set_option maxHeartbeats 3200000 in
theorem wcorners_any (s : ByteArray) (w : World) (hW : Word s.data.toList) :
    Calls Tryd.prog 49 #[.string s] w fun e w' => e = .returned (.int .i64 (corN s.data.toList : Int)) ∧ Below w.heap.size w w' := by
  have hlen := hW.len
  rw [len_str] at hlen
  obtain ⟨hn2, hn10, -⟩ := hlen
  have HW := Lib.hid hW; clear hW
  obtain ⟨m, hm⟩ : ∃ m, m = 2 * s.size := ⟨_, rfl⟩
  have hw2 : IntKind.i64.wrap (2 * (s.size : Int)) = (m : Int) := by rw [IntWalk.i64_in _ (by omega)]; omega
  have HM := Lib.hid hm
  have hm20 : m ≤ 20 := by omega
  clear hm
  obtain ⟨wa, ra, oa, ga⟩ := make_run w.drew 67 Tryd.underlying67 m (by omega)
  obtain ⟨wb, rb, ob, gb⟩ := make_run wa 67 Tryd.underlying67 m (by omega)
  have hr := two_rows rfl rfl oa ga ob gb
  have hbw : Below w.heap.size w wb := ⟨hr.2.2.2.os, hr.2.2.2.tape, hr.2.2.2.output, hr.2.2.2.size, hr.2.2.2.block⟩
  have HR : Hid (w.heap.size ≠ wa.heap.size ∧ Own wb w.heap.size (.slice (some ⟨w.heap.size, 0, none⟩) m m) (List.replicate m 0) ∧ Own wb w.heap.size (.slice (some ⟨wa.heap.size, 0, none⟩) m m) (List.replicate m 0) ∧ Below w.heap.size w wb) := ⟨hr.1, hr.2.1, hr.2.2.1, hbw⟩
  clear hr hbw
  clear oa ga ob gb
  go_enter Tryd.func49, Tryd.ntmps49
  go_upto_region 1 with fail
  go_cut [3, 4] (fun v v' wx => TwoRows w wx m v v')
  case first =>
    go_region
    all_goals
      go_wp2_with fail
      go_meet
      case rel => first
        | exact ⟨_, _, rfl, rfl, HR.out.1, HR.out.2.1, HR.out.2.2.1, HR.out.2.2.2⟩
        | exact ⟨_, _, rfl, rfl, fun e => HR.out.1 e.symm, HR.out.2.2.1, HR.out.2.1, HR.out.2.2.2⟩
  case rest =>
    obtain ⟨g, g', rfl, rfl, hgg, oa, ob, b0⟩ := hcut
    have HA := Lib.hid oa; have HB := Lib.hid ob; have HB0 := Lib.hid b0
    have hg1 := oa.lt g rfl
    have hg2 := ob.lt g' rfl
    clear oa ob b0 ra rb HR
    go_wp2_with fail
    refine (partners_any s wc HW.out).mono ?_
    rintro e w1 ⟨v, rfl, o, b⟩
    have hpl : (parL s.data.toList).length = s.size := (parL_len _).trans (len_str s)
    obtain ⟨Ap, cp, rfl, -, -⟩ := o.form' hpl
    obtain ⟨gp, rfl, hgp, -, -⟩ := o.cellAt hpl (k := 0) (by omega)
    have HAP : Hid ((Value.slice (some ⟨gp, 0, none⟩) s.size cp).ownBlock = some gp) := rfl
    have HPL := Lib.hid hpl
    have HP := Lib.hid o; have HA1 := Lib.hid (HA.out.below (b.mono (by omega))); have HB1 := Lib.hid (HB.out.below (b.mono (by omega))); have HB2 := Lib.hid (HB0.out.trans (b.mono HB0.out.size))
    clear o b hpl HA HB HB0
    go_wp2_with fail
    go_loopw [20] (fun kv wr => ∃ (k : Nat) (gl nx : List Int), k ≤ s.size ∧ kv = .int .i64 k ∧ Hid (Own wr w.heap.size (.slice (some ⟨g, 0, none⟩) m m) gl) ∧ Hid (Own wr w.heap.size (.slice (some ⟨g', 0, none⟩) m m) nx) ∧ Hid (Own wr wc.heap.size (.slice (some ⟨gp, 0, none⟩) s.size cp) (parL s.data.toList)) ∧ Hid (Below w.heap.size w wr) ∧ Hid (Fill s.data.toList k gl nx)) (fun kv _ => s.size - (intOf kv).toNat)
    case atStart =>
      refine ⟨0, _, _, Nat.zero_le _, rfl, HA1.out, HB1.out, HP.out, HB2.out, ?_⟩
      have := Fill.start s.data.toList
      rw [len_str, ← HM.out] at this
      exact this
    case round =>
      clear HA1 HB1 HP HB2
      obtain ⟨k, gl, nx, hk, rfl, ho, hn, hp, hb, hF⟩ := hrel
      by_cases hlt : k < s.size
      · have hkl : k < s.data.toList.length := by rw [len_str]; exact hlt
        obtain ⟨p, hpp⟩ : ∃ p, par s.data.toList k = p := ⟨_, rfl⟩
        have hps : p < s.size := by have := (HW.out.isPar hkl).lt; rw [len_str, hpp] at this; exact this
        obtain ⟨gq, e1, _, hcp, _⟩ := hp.out.cellAt HPL.out hlt
        simp only [Option.some.injEq, Addr.mk.injEq, and_true] at e1
        subst e1
        rw [parL, gi_tab hkl, hpp] at hcp
        have hgl : gl.length = m := by rw [hF.out.lg, len_str, HM.out]
        have hnl : nx.length = m := by rw [hF.out.nl, len_str, HM.out]
        obtain ⟨x0, ex0⟩ : ∃ x, x = 2 * k := ⟨_, rfl⟩
        obtain ⟨x1, ex1⟩ : ∃ x, x = 2 * k + 1 := ⟨_, rfl⟩
        obtain ⟨x2, ex2⟩ : ∃ x, x = 2 * k + 2 := ⟨_, rfl⟩
        obtain ⟨x3, ex3⟩ : ∃ x, x = (2 * k + 2) % m := ⟨_, rfl⟩
        obtain ⟨y0, ey0⟩ : ∃ x, x = 2 * p := ⟨_, rfl⟩
        obtain ⟨y1, ey1⟩ : ∃ x, x = 2 * p + 1 := ⟨_, rfl⟩
        have HM2 := HM.out
        have hx0m : x0 < m := by omega
        have hx1m : x1 < m := by omega
        have hx3m : x3 < m := by rw [ex3]; exact Nat.mod_lt _ (by omega)
        have hx0 : 2 * (k : Int) = (x0 : Int) := by omega
        have hx1 : (x0 : Int) + 1 = (x1 : Int) := by omega
        have hx2 : (x0 : Int) + 2 = (x2 : Int) := by omega
        have hx3 : (x2 : Int) % (m : Int) = (x3 : Int) := by rw [ex2, ex3]; rfl
        have hx3' : (x2 : Int).tmod (m : Int) = (x3 : Int) := by rw [ex2, ex3]; rfl
        have hy0 : 2 * (p : Int) = (y0 : Int) := by omega
        have hy1 : (y0 : Int) + 1 = (y1 : Int) := by omega
        have hy20 : y1 ≤ 20 := by omega
        have HX0 := Lib.hid ex0; have HX1 := Lib.hid ex1; have HX3 := Lib.hid ex3
        have HY : Hid (par s.data.toList k = p ∧ y0 = 2 * p ∧ y1 = 2 * p + 1) := ⟨hpp, ey0, ey1⟩
        have hx2b : x2 ≤ 22 := by omega
        clear ex0 ex1 ex2 ex3 ey0 ey1 HM2
        obtain ⟨b, hbt⟩ : ∃ b, twoAt s.data.toList k = b := ⟨_, rfl⟩
        have HTW : Hid (tw s.data.toList k = if b then 1 else 0) := by rw [Hid, tw, hbt]
        have hbb : ((s[k].toNat : Int) != (s[p].toNat : Int)) = b := by
          rw [← hbt, twoAt, hpp, ← gb_at s hlt, ← gb_at s hps]
          have hle := (HW.out.isPar hkl).eq
          rw [hpp] at hle
          have h0 := (HW.out.ok k hkl).1
          by_cases es : sml (gb s.data.toList k) = sml (gb s.data.toList p)
          · rw [ltr_eq hle.symm es h0, bne_self_eq_false, bne_self_eq_false]
          · have : (sml (gb s.data.toList k) != sml (gb s.data.toList p)) = true := by simpa using es
            rw [this]
            simp only [bne_iff_ne, ne_eq]
            intro e
            have : gb s.data.toList k = gb s.data.toList p := UInt8.toNat_inj.1 (by omega)
            exact es (by rw [this])
        have HPP := Lib.hid hpp; clear hpp hbt
        cases b with
      | true =>
        have HG0 : Hid ((glE s.data.toList x0 : Int) = (y1 : Int)) := by
          have e1 := HX0.out; have e2 := HTW.out; have e3 := HY.out
          rw [Hid, e1, glE_even, e2]; simp; omega
        have HG1 : Hid ((glE s.data.toList x1 : Int) = (y0 : Int)) := by
          have e1 := HX1.out; have e2 := HTW.out; have e3 := HY.out
          rw [Hid, e1, glE_odd, e2]; simp; omega
        go_wp2_with fail
        go_quiet (fail)
        have hoA := ho.out.drewN nq
        have hoB := hn.out.drewN nq
        have hoP := hp.out.drewN nq
        have hbW := below_drewN hb.out nq
        obtain ⟨W, hWr⟩ : ∃ W, wr.drewN nq = W := ⟨_, rfl⟩
        rw [hWr] at hoA hoB hoP hbW
        rw [hWr]
        clear hWr
        obtain ⟨q1, e1, _, hm1, hf1⟩ := hoA.cellAt hgl hx0m
        simp only [Option.some.injEq, Addr.mk.injEq, and_true] at e1
        subst e1
        have S1 := hoA.stored hgl x0 (y1 : Int)
        obtain ⟨q2, e2, _, hm2, hf2⟩ := S1.1.cellAt (by rw [List.length_set]; exact hgl) hx1m
        simp only [Option.some.injEq, Addr.mk.injEq, and_true] at e2
        subst e2
        have S2 := S1.1.stored (by rw [List.length_set]; exact hgl) x1 (y0 : Int)
        have HG := Lib.hid (grownBy_trans S1.2 S2.2)
        have HS2 := Lib.hid S2.1
        have HOB := Lib.hid (hoB.grown HG.out (.inr (by simp [Value.ownBlock]; omega)))
        have HOP := Lib.hid (hoP.grown HG.out (.inr (by rw [HAP.out]; simp; omega)))
        have HBW := Lib.hid (hbW.grown HG.out hbW.size (fun r hr => by simp at hr; omega))
        clear hoA hoB hoP S1 S2
        go_wp2_with fail
        obtain ⟨W2, hW2⟩ : ∃ W2, (W.setCell ⟨g, x0, none⟩ (.int .i64 (y1 : Int))).setCell ⟨g, x1, none⟩ (.int .i64 (y0 : Int)) = W2 := ⟨_, rfl⟩
        rw [hW2] at HS2 HOB HOP HBW
        rw [hW2]
        have HWS : Hid (W.heap.size = W2.heap.size) := by rw [Hid, ← hW2]; simp
        clear hW2 HG hm1 hf1 hm2 hf2
        have HFS : Hid (Fill s.data.toList (k + 1) ((gl.set x0 (y1 : Int)).set x1 (y0 : Int)) ((nx.set x1 (x3 : Int)).set x3 (x1 : Int))) := by
          have h1 := hF.out.step hkl
          have e3 : (2 * k + 2) % (2 * s.data.toList.length) = x3 := by rw [len_str, ← HM.out]; exact HX3.out.symm
          rw [e3, ← HX1.out, ← HX0.out, HG0.out, HG1.out] at h1
          exact h1
        have hbs := HBW.out.size
        have hg2' := (HOB.out.lt g' rfl).2
        have hws := HWS.out
        refine (lead_two g' W.heap.size m m w.heap.size x1 x3 nx _ (World.ownsRow.alloc HOB.out _) hnl hx1m hx3m (by omega) (by rw [HWS.out, cell_of_row _ _ 0 _ _ (0, 0) (heap_alloc_new W2 _)]; rfl) (by rw [HWS.out, cell_of_row _ _ 1 _ _ (0, 0) (heap_alloc_new W2 _)]; rfl)).mono ?_
        rintro e w5 ⟨rfl, ho5, hg5⟩
        clear hws
        have HOA5 : Hid (Own w5 w.heap.size (.slice (some ⟨g, 0, none⟩) m m) ((gl.set x0 (y1 : Int)).set x1 (y0 : Int))) := Own.grown (World.ownsRow.alloc HS2.out _) hg5 (.inr (by simp [Value.ownBlock]; omega))
        have HOP5 : Hid (Own w5 wc.heap.size (.slice (some ⟨gp, 0, none⟩) s.size cp) (parL s.data.toList)) := Own.grown (World.ownsRow.alloc HOP.out _) hg5 (.inr (by rw [HAP.out]; simp; omega))
        have HBW5 : Hid (Below w.heap.size w w5) := (HBW.out.alloc hbs _).grown hg5 (by rw [World.size_alloc]; omega) (fun r hr => by simp at hr; omega)
        have HOB5 := Lib.hid ho5
        clear ho5 hg5 HS2 HOP HBW HOB
        go_wp2_with fail
        go_roundw
        case rel => exact ⟨k + 1, _, _, by omega, by go_num, HOA5.out, HOB5.out, HOP5.out, HBW5.out, HFS.out⟩
        case measure => simp [intOf]; omega
      | false =>
        have HG0 : Hid ((glE s.data.toList x0 : Int) = (y0 : Int)) := by
          have e1 := HX0.out; have e2 := HTW.out; have e3 := HY.out
          rw [Hid, e1, glE_even, e2]; simp; omega
        have HG1 : Hid ((glE s.data.toList x1 : Int) = (y1 : Int)) := by
          have e1 := HX1.out; have e2 := HTW.out; have e3 := HY.out
          rw [Hid, e1, glE_odd, e2]; simp; omega
        go_wp2_with fail
        go_quiet (fail)
        have hoA := ho.out.drewN nq
        have hoB := hn.out.drewN nq
        have hoP := hp.out.drewN nq
        have hbW := below_drewN hb.out nq
        obtain ⟨W, hWr⟩ : ∃ W, wr.drewN nq = W := ⟨_, rfl⟩
        rw [hWr] at hoA hoB hoP hbW
        rw [hWr]
        clear hWr
        obtain ⟨q1, e1, _, hm1, hf1⟩ := hoA.cellAt hgl hx0m
        simp only [Option.some.injEq, Addr.mk.injEq, and_true] at e1
        subst e1
        have S1 := hoA.stored hgl x0 (y0 : Int)
        obtain ⟨q2, e2, _, hm2, hf2⟩ := S1.1.cellAt (by rw [List.length_set]; exact hgl) hx1m
        simp only [Option.some.injEq, Addr.mk.injEq, and_true] at e2
        subst e2
        have S2 := S1.1.stored (by rw [List.length_set]; exact hgl) x1 (y1 : Int)
        have HG := Lib.hid (grownBy_trans S1.2 S2.2)
        have HS2 := Lib.hid S2.1
        have HOB := Lib.hid (hoB.grown HG.out (.inr (by simp [Value.ownBlock]; omega)))
        have HOP := Lib.hid (hoP.grown HG.out (.inr (by rw [HAP.out]; simp; omega)))
        have HBW := Lib.hid (hbW.grown HG.out hbW.size (fun r hr => by simp at hr; omega))
        clear hoA hoB hoP S1 S2
        go_wp2_with fail
        obtain ⟨W2, hW2⟩ : ∃ W2, (W.setCell ⟨g, x0, none⟩ (.int .i64 (y0 : Int))).setCell ⟨g, x1, none⟩ (.int .i64 (y1 : Int)) = W2 := ⟨_, rfl⟩
        rw [hW2] at HS2 HOB HOP HBW
        rw [hW2]
        have HWS : Hid (W.heap.size = W2.heap.size) := by rw [Hid, ← hW2]; simp
        clear hW2 HG hm1 hf1 hm2 hf2
        have HFS : Hid (Fill s.data.toList (k + 1) ((gl.set x0 (y0 : Int)).set x1 (y1 : Int)) ((nx.set x1 (x3 : Int)).set x3 (x1 : Int))) := by
          have h1 := hF.out.step hkl
          have e3 : (2 * k + 2) % (2 * s.data.toList.length) = x3 := by rw [len_str, ← HM.out]; exact HX3.out.symm
          rw [e3, ← HX1.out, ← HX0.out, HG0.out, HG1.out] at h1
          exact h1
        have hbs := HBW.out.size
        have hg2' := (HOB.out.lt g' rfl).2
        have hws := HWS.out
        refine (lead_two g' W.heap.size m m w.heap.size x1 x3 nx _ (World.ownsRow.alloc HOB.out _) hnl hx1m hx3m (by omega) (by rw [HWS.out, cell_of_row _ _ 0 _ _ (0, 0) (heap_alloc_new W2 _)]; rfl) (by rw [HWS.out, cell_of_row _ _ 1 _ _ (0, 0) (heap_alloc_new W2 _)]; rfl)).mono ?_
        rintro e w5 ⟨rfl, ho5, hg5⟩
        clear hws
        have HOA5 : Hid (Own w5 w.heap.size (.slice (some ⟨g, 0, none⟩) m m) ((gl.set x0 (y0 : Int)).set x1 (y1 : Int))) := Own.grown (World.ownsRow.alloc HS2.out _) hg5 (.inr (by simp [Value.ownBlock]; omega))
        have HOP5 : Hid (Own w5 wc.heap.size (.slice (some ⟨gp, 0, none⟩) s.size cp) (parL s.data.toList)) := Own.grown (World.ownsRow.alloc HOP.out _) hg5 (.inr (by rw [HAP.out]; simp; omega))
        have HBW5 : Hid (Below w.heap.size w w5) := (HBW.out.alloc hbs _).grown hg5 (by rw [World.size_alloc]; omega) (fun r hr => by simp at hr; omega)
        have HOB5 := Lib.hid ho5
        clear ho5 hg5 HS2 HOP HBW HOB
        go_wp2_with fail
        go_roundw
        case rel => exact ⟨k + 1, _, _, by omega, by go_num, HOA5.out, HOB5.out, HOP5.out, HBW5.out, HFS.out⟩
        case measure => simp [intOf]; omega
      · have hks : k = s.size := by omega
        have hfd : gl = gluW s.data.toList ∧ nx = nxtW s.data.toList.length := Fill.done (by have := hF.out; rw [hks, ← len_str s] at this; exact this) (by rw [len_str]; omega)
        have HFD := Lib.hid hfd
        obtain ⟨hv1, hv2⟩ := HW.out.ivl
        rw [← hfd.1] at hv1
        rw [← hfd.2] at hv2
        have hgl : gl.length = m := by rw [hF.out.lg, len_str, HM.out]
        have hnl : nx.length = m := by rw [hF.out.nl, len_str, HM.out]
        have hra := ho.out.rd hgl
        have hrb := hn.out.rd hnl
        have HC := Lib.hid (orbCount_any wr.heap.size (some ⟨g, 0, none⟩) (some ⟨g', 0, none⟩) m m m gl nx (wr.alloc (.cells #[.slice (some ⟨g', 0, none⟩) m m] 67)) (by rw [cell_of_row _ _ 0 _ _ (0, 0) (heap_alloc_new wr _)]; rfl) (hra.alloc _) (hrb.alloc _) hv1 hv2)
        clear hks hfd hv1 hv2 hgl hnl hra hrb
        go_wp2_with fail
        refine HC.out.mono ?_
        rintro e w6 ⟨rfl, b⟩
        have HB6 : Hid (Below w.heap.size w w6) := (hb.out.alloc hb.out.size _).trans (b.mono (by have := hb.out.size; rw [World.size_alloc]; omega))
        clear b
        go_wp2_with fail
        go_ret
        refine ⟨ret_intE ?_, HB6.out⟩
        rw [corN, cnrL, HFD.out.1, HFD.out.2, len_str, HM.out]

end Go.Proofs.YtfdliekhlcbkcaaDoor

namespace Go.Proofs.YtfdliekhlcbkcaaDoor
open Go.RowKit

theorem two_rowsM {w wa wb : World} {n : Nat} {g g' : Nat} (hg : g = w.heap.size) (hg' : g' = wa.heap.size) (ha : Own wa w.heap.size (.slice (some ⟨g, 0, none⟩) n n) (List.replicate n 0)) (hga : w.grownBy wa none) (hb : Own wb wa.heap.size (.slice (some ⟨g', 0, none⟩) n n) (List.replicate n 0)) (hgb : wa.grownBy wb none) :
    g ≠ g' ∧ Own wb w.heap.size (.slice (some ⟨g, 0, none⟩) n n) (List.replicate n 0) ∧ Own wb w.heap.size (.slice (some ⟨g', 0, none⟩) n n) (List.replicate n 0) ∧ Below w.heap.size w wb := by
  have h1 := (ha.lt g rfl).2
  refine ⟨by omega, ha.grown hgb (.inr (by simp [Value.ownBlock])), hb.mono hga.size, ?_⟩
  exact (below_of_grown hga (Nat.le_refl _) (fun k hk => by cases hk)).grown hgb hga.size (fun k hk => by cases hk)

def TwoRowsM (w wx : World) (n : Nat) (v v' : Value) : Prop := ∃ g g', v = .slice (some ⟨g, 0, none⟩) n n ∧ v' = .slice (some ⟨g', 0, none⟩) n n ∧ g ≠ g' ∧ Own wx w.heap.size v (List.replicate n 0) ∧ Own wx w.heap.size v' (List.replicate n 0) ∧ Below w.heap.size w wx
set_option maxRecDepth 20000 in
set_option maxHeartbeats 3200000 in
theorem l8Corners_any (s : ByteArray) (w : World) (hW : Word s.data.toList) :
    Calls Tryd.prog 51 #[.string s] w fun e w' => e = .returned (.int .i64 (corN s.data.toList : Int)) ∧ Below w.heap.size w w' := by
  obtain ⟨i0, hinf, hz0, hz1, hz2⟩ := info_parts info_int
  have hlen := hW.len
  rw [len_str] at hlen
  obtain ⟨hn2, hn10, -⟩ := hlen
  have HW := Lib.hid hW; clear hW
  obtain ⟨m, hm⟩ : ∃ m, m = 2 * s.size := ⟨_, rfl⟩
  have hw2 : 2 * (s.size : Int) = (m : Int) := by omega
  have HM := Lib.hid hm
  have hm20 : m ≤ 20 := by omega
  clear hm
  have HZ := Lib.hid (And.intro hz1 hz2)
  go_enter Tryd.func51, Tryd.ntmps51
  go_wp2_with (first
    | (at_make; refine wpList_make_full _ rfl (.tmp 15) (.tmp 15) 27 rfl w.heap.size 3 i0 (.int .i64 0) 1 Tryd.underlying27 hinf hz0 hz1 .i64 .i64 _ _ m rfl rfl rfl rfl (by rw [hz2]; omega) (by unfold maxLen; omega) (Nat.le_refl _) ?_; intro wa hown1 hgrow1; have HO1 := Lib.hid (Own.made hown1); have HG1 := Lib.hid hgrow1; clear hown1 hgrow1)
    | (at_make; refine wpList_make_full _ rfl (.tmp 17) (.tmp 17) 27 rfl wa.heap.size 3 i0 (.int .i64 0) 1 Tryd.underlying27 hinf hz0 hz1 .i64 .i64 _ _ m rfl rfl rfl rfl (by rw [hz2]; omega) (by unfold maxLen; omega) (Nat.le_refl _) ?_; intro wb hown2 hgrow2; have HO2 := Lib.hid (Own.made hown2); have HG2 := Lib.hid hgrow2; clear hown2 hgrow2))
  have hr : ∃ g g', w.heap.size = g ∧ wa.heap.size = g' ∧ g ≠ g' ∧ Own wb w.heap.size (.slice (some ⟨g, 0, none⟩) m m) (List.replicate m 0) ∧ Own wb w.heap.size (.slice (some ⟨g', 0, none⟩) m m) (List.replicate m 0) ∧ Below w.heap.size w wb :=
    ⟨_, _, rfl, rfl, two_rowsM rfl rfl HO1.out HG1.out HO2.out HG2.out⟩
  obtain ⟨g, g', eg, eg', hgg, oa, ob, b0⟩ := hr
  rw [eg, eg']
  have HA := Lib.hid oa; have HB := Lib.hid ob; have HB0 := Lib.hid b0
  have hg1 := oa.lt g rfl
  have hg2 := ob.lt g' rfl
  clear oa ob b0 HO1 HG1 HO2 HG2 HZ eg eg'
  go_loopw [6, 7, 8] (fun kv _ _ wr => ∃ (k : Nat) (gl nx : List Int), k ≤ s.size ∧ kv = .int .i64 k ∧ Hid (Own wr w.heap.size (.slice (some ⟨g, 0, none⟩) m m) gl) ∧ Hid (Own wr w.heap.size (.slice (some ⟨g', 0, none⟩) m m) nx) ∧ Hid (Below w.heap.size w wr) ∧ Hid (Fill s.data.toList k gl nx)) (fun kv _ _ _ => s.size - (intOf kv).toNat)
  case atStart =>
    refine ⟨0, _, _, Nat.zero_le _, rfl, HA.out, HB.out, HB0.out, ?_⟩
    have := Fill.start s.data.toList
    rw [len_str, ← HM.out] at this
    exact this
  case round =>
    clear HA HB HB0
    obtain ⟨k, gl, nx, hk, rfl, ho, hn, hb, hF⟩ := hrel
    by_cases hlt : k < s.size
    · have hkl : k < s.data.toList.length := by rw [len_str]; exact hlt
      obtain ⟨p, hpp⟩ : ∃ p, par s.data.toList k = p := ⟨_, rfl⟩
      have hps : p < s.size := by have := (HW.out.isPar hkl).lt; rw [len_str, hpp] at this; exact this
      have hgl : gl.length = m := by rw [hF.out.lg, len_str, HM.out]
      have hnl : nx.length = m := by rw [hF.out.nl, len_str, HM.out]
      obtain ⟨x0, ex0⟩ : ∃ x, x = 2 * k := ⟨_, rfl⟩
      obtain ⟨x1, ex1⟩ : ∃ x, x = 2 * k + 1 := ⟨_, rfl⟩
      obtain ⟨x2, ex2⟩ : ∃ x, x = 2 * k + 2 := ⟨_, rfl⟩
      obtain ⟨x3, ex3⟩ : ∃ x, x = (2 * k + 2) % m := ⟨_, rfl⟩
      obtain ⟨y0, ey0⟩ : ∃ x, x = 2 * p := ⟨_, rfl⟩
      obtain ⟨y1, ey1⟩ : ∃ x, x = 2 * p + 1 := ⟨_, rfl⟩
      have HM2 := HM.out
      have hx0m : x0 < m := by omega
      have hx1m : x1 < m := by omega
      have hx3m : x3 < m := by rw [ex3]; exact Nat.mod_lt _ (by omega)
      have hx0 : 2 * (k : Int) = (x0 : Int) := by omega
      have hx1 : (x0 : Int) + 1 = (x1 : Int) := by omega
      have hx2 : (x0 : Int) + 2 = (x2 : Int) := by omega
      have hx3 : (x2 : Int) % (m : Int) = (x3 : Int) := by rw [ex2, ex3]; rfl
      have hx3' : (x2 : Int).tmod (m : Int) = (x3 : Int) := by rw [ex2, ex3]; rfl
      have hy0 : 2 * (p : Int) = (y0 : Int) := by omega
      have hy1 : (y0 : Int) + 1 = (y1 : Int) := by omega
      have hy2 : (y1 : Int) - 1 = (y0 : Int) := by omega
      have hy20 : y1 ≤ 20 := by omega
      have hx13 : x1 ≠ x3 := by rw [ex1, ex3, HM2]; exact nx_ne hlt
      have HX0 := Lib.hid ex0; have HX1 := Lib.hid ex1; have HX3 := Lib.hid ex3
      have HY : Hid (par s.data.toList k = p ∧ y0 = 2 * p ∧ y1 = 2 * p + 1) := ⟨hpp, ey0, ey1⟩
      have hx2b : x2 ≤ 22 := by omega
      clear ex0 ex1 ex2 ex3 ey0 ey1 HM2
      obtain ⟨b, hbt⟩ : ∃ b, twoAt s.data.toList k = b := ⟨_, rfl⟩
      have HTW : Hid (tw s.data.toList k = if b then 1 else 0) := by rw [Hid, tw, hbt]
      have hbb : (sml s[k] != sml s[p]) = b := by
        rw [← hbt, twoAt, hpp, ← gb_at s hlt, ← gb_at s hps]
      have hbb2 : (!(sml s[k] == sml s[p])) = b := hbb
      have HPP := Lib.hid hpp; clear hpp hbt
      cases b with
      | true =>
        have HG0 : Hid ((glE s.data.toList x0 : Int) = (y1 : Int)) := by
          have e1 := HX0.out; have e2 := HTW.out; have e3 := HY.out
          rw [Hid, e1, glE_even, e2]; simp; omega
        have HG1 : Hid ((glE s.data.toList x1 : Int) = (y0 : Int)) := by
          have e1 := HX1.out; have e2 := HTW.out; have e3 := HY.out
          rw [Hid, e1, glE_odd, e2]; simp; omega
        have HFS : Hid (Fill s.data.toList (k + 1) ((gl.set x0 (y1 : Int)).set x1 (y0 : Int)) ((nx.set x1 (x3 : Int)).set x3 (x1 : Int))) := by
          have h1 := hF.out.step hkl
          have e3 : (2 * k + 2) % (2 * s.data.toList.length) = x3 := by rw [len_str, ← HM.out]; exact HX3.out.symm
          rw [e3, ← HX1.out, ← HX0.out, HG0.out, HG1.out] at h1
          exact h1
        go_wp2_with (go_at_call 76; refine (l8Partner_any s k _ (by omega) hlt).mono ?_; rintro e w' ⟨rfl, q1, rfl⟩; rw [HPP.out])
        go_quiet ((go_at_call 78; exact (l8Small_any _ _).mono fun e w' h => ⟨h.1, _, h.2.symm⟩))
        have hoA := (ho.out.drewN q1).drewN nq
        have hoB := (hn.out.drewN q1).drewN nq
        have hbW := below_drewN (below_drewN hb.out q1) nq
        obtain ⟨W, hWr⟩ : ∃ W, (wr.drewN q1).drewN nq = W := ⟨_, rfl⟩
        rw [hWr] at hoA hoB hbW
        rw [hWr]
        clear hWr
        obtain ⟨q2, e1, _, hm1, hf1⟩ := hoA.cellAt hgl hx0m
        simp only [Option.some.injEq, Addr.mk.injEq, and_true] at e1
        subst e1
        have S1 := hoA.stored hgl x0 (y1 : Int)
        obtain ⟨q3, e2, _, hm2, hf2⟩ := hoA.cellAt hgl hx1m
        simp only [Option.some.injEq, Addr.mk.injEq, and_true] at e2
        subst e2
        have S2 := S1.1.stored (by rw [List.length_set]; exact hgl) x1 (y0 : Int)
        have HG := Lib.hid (grownBy_trans S1.2 S2.2)
        have HS2 := S2.1
        have HOB := hoB.grown HG.out (.inr (by simp [Value.ownBlock]; omega))
        have HBW := hbW.grown HG.out hbW.size (fun r hr => by simp at hr; omega)
        obtain ⟨q4, e3, _, hm3, hf3⟩ := hoB.cellAt hnl hx1m
        simp only [Option.some.injEq, Addr.mk.injEq, and_true] at e3
        subst e3
        have S3 := HOB.stored hnl x1 (x3 : Int)
        obtain ⟨q5, e4, _, hm4, hf4⟩ := hoB.cellAt hnl hx3m
        simp only [Option.some.injEq, Addr.mk.injEq, and_true] at e4
        subst e4
        have S4 := S3.1.stored (by rw [List.length_set]; exact hnl) x3 (x1 : Int)
        have HG2 := Lib.hid (grownBy_trans S3.2 S4.2)
        have HA4 := Lib.hid (HS2.grown HG2.out (.inr (by simp [Value.ownBlock]; omega)))
        have HB4 := Lib.hid S4.1
        have HBW4 := Lib.hid (HBW.grown HG2.out HBW.size (fun r hr => by simp at hr; omega))
        have hx01 : x0 ≠ x1 := by omega
        have hgg2 : g' ≠ g := by omega
        clear hoA hoB S1 S2 S3 S4 HS2 HOB HBW HG HG2
        go_wp2_with fail
        go_roundw
        case rel => exact ⟨k + 1, _, _, by omega, by go_num, HA4.out, HB4.out, HBW4.out, HFS.out⟩
        case measure => simp [intOf]; omega
      | false =>
        have HG0 : Hid ((glE s.data.toList x0 : Int) = (y0 : Int)) := by
          have e1 := HX0.out; have e2 := HTW.out; have e3 := HY.out
          rw [Hid, e1, glE_even, e2]; simp; omega
        have HG1 : Hid ((glE s.data.toList x1 : Int) = (y1 : Int)) := by
          have e1 := HX1.out; have e2 := HTW.out; have e3 := HY.out
          rw [Hid, e1, glE_odd, e2]; simp; omega
        have HFS : Hid (Fill s.data.toList (k + 1) ((gl.set x0 (y0 : Int)).set x1 (y1 : Int)) ((nx.set x1 (x3 : Int)).set x3 (x1 : Int))) := by
          have h1 := hF.out.step hkl
          have e3 : (2 * k + 2) % (2 * s.data.toList.length) = x3 := by rw [len_str, ← HM.out]; exact HX3.out.symm
          rw [e3, ← HX1.out, ← HX0.out, HG0.out, HG1.out] at h1
          exact h1
        go_wp2_with (go_at_call 76; refine (l8Partner_any s k _ (by omega) hlt).mono ?_; rintro e w' ⟨rfl, q1, rfl⟩; rw [HPP.out])
        go_quiet ((go_at_call 78; exact (l8Small_any _ _).mono fun e w' h => ⟨h.1, _, h.2.symm⟩))
        have hoA := (ho.out.drewN q1).drewN nq
        have hoB := (hn.out.drewN q1).drewN nq
        have hbW := below_drewN (below_drewN hb.out q1) nq
        obtain ⟨W, hWr⟩ : ∃ W, (wr.drewN q1).drewN nq = W := ⟨_, rfl⟩
        rw [hWr] at hoA hoB hbW
        rw [hWr]
        clear hWr
        obtain ⟨q2, e1, _, hm1, hf1⟩ := hoA.cellAt hgl hx0m
        simp only [Option.some.injEq, Addr.mk.injEq, and_true] at e1
        subst e1
        have S1 := hoA.stored hgl x0 (y0 : Int)
        obtain ⟨q3, e2, _, hm2, hf2⟩ := hoA.cellAt hgl hx1m
        simp only [Option.some.injEq, Addr.mk.injEq, and_true] at e2
        subst e2
        have S2 := S1.1.stored (by rw [List.length_set]; exact hgl) x1 (y1 : Int)
        have HG := Lib.hid (grownBy_trans S1.2 S2.2)
        have HS2 := S2.1
        have HOB := hoB.grown HG.out (.inr (by simp [Value.ownBlock]; omega))
        have HBW := hbW.grown HG.out hbW.size (fun r hr => by simp at hr; omega)
        obtain ⟨q4, e3, _, hm3, hf3⟩ := hoB.cellAt hnl hx1m
        simp only [Option.some.injEq, Addr.mk.injEq, and_true] at e3
        subst e3
        have S3 := HOB.stored hnl x1 (x3 : Int)
        obtain ⟨q5, e4, _, hm4, hf4⟩ := hoB.cellAt hnl hx3m
        simp only [Option.some.injEq, Addr.mk.injEq, and_true] at e4
        subst e4
        have S4 := S3.1.stored (by rw [List.length_set]; exact hnl) x3 (x1 : Int)
        have HG2 := Lib.hid (grownBy_trans S3.2 S4.2)
        have HA4 := Lib.hid (HS2.grown HG2.out (.inr (by simp [Value.ownBlock]; omega)))
        have HB4 := Lib.hid S4.1
        have HBW4 := Lib.hid (HBW.grown HG2.out HBW.size (fun r hr => by simp at hr; omega))
        have hx01 : x0 ≠ x1 := by omega
        have hgg2 : g' ≠ g := by omega
        clear hoA hoB S1 S2 S3 S4 HS2 HOB HBW HG HG2
        go_wp2_with fail
        go_roundw
        case rel => exact ⟨k + 1, _, _, by omega, by go_num, HA4.out, HB4.out, HBW4.out, HFS.out⟩
        case measure => simp [intOf]; omega
    · have hks : k = s.size := by omega
      have hfd : gl = gluW s.data.toList ∧ nx = nxtW s.data.toList.length := Fill.done (by have := hF.out; rw [hks, ← len_str s] at this; exact this) (by rw [len_str]; omega)
      have HFD := Lib.hid hfd
      obtain ⟨hv1, hv2⟩ := HW.out.ivl
      rw [← hfd.1] at hv1
      rw [← hfd.2] at hv2
      have hgl : gl.length = m := by rw [hF.out.lg, len_str, HM.out]
      have hnl : nx.length = m := by rw [hF.out.nl, len_str, HM.out]
      have HC := Lib.hid (l1Orbits_anyI (some ⟨g, 0, none⟩) (some ⟨g', 0, none⟩) m m m gl nx wr (ho.out.rd hgl) (hn.out.rd hnl) hv1 hv2)
      have HOL : Hid ((orbL gl nx).length = m) := by rw [Hid, orbL_len]; exact hgl
      obtain ⟨ls, hls⟩ : ∃ ls, orbL gl nx = ls := ⟨_, rfl⟩
      rw [hls] at HC HOL
      have HLS : Hid (cnrL s.data.toList = ls) := by rw [Hid, cnrL, ← HFD.out.1, ← HFD.out.2]; exact hls
      clear hks hfd hv1 hv2 hgl hnl hls
      go_wp2_with fail
      refine HC.out.mono ?_
      rintro e w6 ⟨v, rfl, o, b⟩
      obtain ⟨A6, c6, rfl, hr6, -⟩ := o.form' HOL.out
      have HR6 := Lib.hid hr6
      have HB6 : Hid (Below w.heap.size w w6) := hb.out.trans (b.mono hb.out.size)
      clear b o hr6
      go_wp2_with fail
      go_loop [10, 11] (fun cv kv => ∃ k q : Nat, k ≤ m ∧ q ≤ k ∧ kv = .int .i64 k ∧ cv = .int .i64 q ∧ Hid (q = fixN ls k)) (fun _ kv => m - (intOf kv).toNat)
      case atStart => exact ⟨0, 0, Nat.zero_le _, Nat.le_refl _, rfl, rfl, rfl⟩
      case round =>
        obtain ⟨k, q, hk, hqk, rfl, rfl, hq⟩ := hrel
        by_cases hlt : k < m
        · obtain ⟨ad, rfl, hc⟩ := HR6.out.at_ hlt
          have hs := fixN_succ ls k
          rw [← hq.out] at hs
          have HS := Lib.hid hs; clear hs
          obtain ⟨z, hz⟩ : ∃ z, gi ls k = z := ⟨_, rfl⟩
          rw [hz] at hc
          have HZ := Lib.hid hz; clear hz
          by_cases e : z = (k : Int)
          · have d : (z == (k : Int)) = true := by simp [e]
            have HE := Lib.hid e; clear e
            go_wp2_with fail
            go_round
            case rel => exact ⟨k + 1, q + 1, by omega, by omega, by go_num, by go_num, by rw [Hid, HS.out, if_pos (HZ.out.trans HE.out)]⟩
            case measure => simp [intOf]; omega
          · have d : (z == (k : Int)) = false := by simp; omega
            have HE := Lib.hid e; clear e
            go_wp2_with fail
            go_round
            case rel => exact ⟨k + 1, q, by omega, by omega, by go_num, rfl, by rw [Hid, HS.out, if_neg (fun e => HE.out (HZ.out.symm.trans e))]; rfl⟩
            case measure => simp [intOf]; omega
        · have hkn : k = m := by omega
          have HK := Lib.hid hkn; clear hkn
          go_wp2_with fail
          go_ret
          refine ⟨ret_intE ?_, HB6.out⟩
          rw [hq.out, HK.out, corN, HLS.out, len_str, HM.out]

end Go.Proofs.YtfdliekhlcbkcaaDoor

namespace Go.Proofs.YtfdliekhlcbkcaaDoor
open Go.RowKit

theorem below_undrewN {B k : Nat} {w w' : World} (h : Below B (w.drewN k) w') : Below B w w' := ⟨h.os, h.tape, h.output, h.size, h.block⟩
noncomputable def corR (l : List UInt8) : Int := if wordB l then (corN l : Int) else -1
noncomputable def numN (l : List UInt8) : Int := (corN l : Int) - (l.length / 2 : Nat) + 1
noncomputable def numR (l : List UInt8) : Int := if wordB l then numN l else -100
theorem corR_yes {l : List UInt8} (h : wordB l = true) : corR l = corN l := by rw [corR, if_pos h]
theorem corR_no {l : List UInt8} (h : wordB l = false) : corR l = -1 := by rw [corR, if_neg (by simp [h])]
theorem numR_yes {l : List UInt8} (h : wordB l = true) : numR l = numN l := by rw [numR, if_pos h]
theorem numR_no {l : List UInt8} (h : wordB l = false) : numR l = -100 := by rw [numR, if_neg (by simp [h])]
theorem Word.numN {l : List UInt8} (h : Word l) : -4 ≤ numN l ∧ numN l ≤ 2 := by
  have := h.cor_le; have := h.len; unfold Go.Proofs.YtfdliekhlcbkcaaDoor.numN; omega

set_option maxHeartbeats 800000 in
theorem spec_corR (w : World) (s : ByteArray) (hs : s.size ≤ 1048576) {r : Int} (hR : corR s.data.toList = r) :
    Calls Tryd.prog 14 #[.string s] w fun e w' => e = .returned (.int .i64 r) ∧ Below w.heap.size w w' := by
  obtain ⟨b, hb⟩ : ∃ b, wordB s.data.toList = b := ⟨_, rfl⟩
  have HBB := Lib.hid hb
  cases b with
  | false =>
    have HR := Lib.hid ((corR_no hb).symm.trans hR); clear hR hb
    go_enter Tryd.func14, Tryd.ntmps14
    go_wp2_with (go_at_call 50; refine (specWord_any s _ hs HBB.out).mono ?_; rintro e w' ⟨rfl, q1, rfl⟩)
    go_ret
    exact ⟨ret_intE HR.out, below_drewN (Below.refl _ _) _⟩
  | true =>
    have HR := Lib.hid ((corR_yes hb).symm.trans hR)
    have HW := Lib.hid (wordB_iff.1 hb); clear hR hb
    go_enter Tryd.func14, Tryd.ntmps14
    go_wp2_with (first
      | (go_at_call 50; refine (specWord_any s _ hs HBB.out).mono ?_; rintro e w' ⟨rfl, q1, rfl⟩)
      | (go_at_call 51; refine (l8Corners_any s _ HW.out).mono ?_; rintro e w' ⟨rfl, b⟩; have HB1 := Lib.hid (below_undrewN b); clear b))
    go_ret
    exact ⟨ret_intE HR.out, HB1.out⟩

set_option maxHeartbeats 800000 in
theorem impl_corR (w : World) (s : ByteArray) (hs : s.size ≤ 1048576) {r : Int} (hR : corR s.data.toList = r) :
    Calls Tryd.prog 13 #[.string s] w fun e w' => e = .returned (.int .i64 r) ∧ Below w.heap.size w w' := by
  obtain ⟨b, hb⟩ : ∃ b, wordB s.data.toList = b := ⟨_, rfl⟩
  have HBB := Lib.hid hb
  cases b with
  | false =>
    have HR := Lib.hid ((corR_no hb).symm.trans hR); clear hR hb
    go_enter Tryd.func13, Tryd.ntmps13
    go_wp2_with (go_at_call 39; refine (implWord_any s _ hs HBB.out).mono ?_; rintro e w1 ⟨rfl, b⟩; have HB1 := Lib.hid b; clear b)
    go_ret
    exact ⟨ret_intE HR.out, HB1.out⟩
  | true =>
    have HR := Lib.hid ((corR_yes hb).symm.trans hR)
    have HW := Lib.hid (wordB_iff.1 hb); clear hR hb
    go_enter Tryd.func13, Tryd.ntmps13
    go_wp2_with (first
      | (go_at_call 39; refine (implWord_any s _ hs HBB.out).mono ?_; rintro e w1 ⟨rfl, b⟩; have HB1 := Lib.hid b; clear b)
      | (go_at_call 49; refine (wcorners_any s _ HW.out).mono ?_; rintro e w2 ⟨rfl, b⟩; have HB2 := Lib.hid (HB1.out.trans (b.mono HB1.out.size)); clear b))
    go_ret
    exact ⟨ret_intE HR.out, HB2.out⟩

end Go.Proofs.YtfdliekhlcbkcaaDoor

namespace Go.Proofs.YtfdliekhlcbkcaaDoor
open Go.RowKit

set_option maxHeartbeats 800000 in
theorem spec_numR (w : World) (s : ByteArray) (hs : s.size ≤ 1048576) {r : Int} (hR : numR s.data.toList = r) :
    Calls Tryd.prog 23 #[.string s] w fun e w' => e = .returned (.int .i64 r) ∧ Below w.heap.size w w' := by
  obtain ⟨b, hb⟩ : ∃ b, wordB s.data.toList = b := ⟨_, rfl⟩
  have HBB := Lib.hid hb
  cases b with
  | false =>
    have HR := Lib.hid ((numR_no hb).symm.trans hR); clear hR hb
    go_enter Tryd.func23, Tryd.ntmps23
    go_wp2_with (go_at_call 50; refine (specWord_any s _ hs HBB.out).mono ?_; rintro e w' ⟨rfl, q1, rfl⟩)
    go_ret
    exact ⟨ret_intE HR.out, below_drewN (Below.refl _ _) _⟩
  | true =>
    have hw := wordB_iff.1 hb
    have hle := hw.cor_le; have hlen := hw.len
    rw [len_str] at hle hlen
    have HR : Hid ((corN s.data.toList : Int) - (s.size / 2 : Nat) + 1 = r) := by rw [Hid, ← hR, numR_yes hb, numN, len_str]
    have HW := Lib.hid hw; clear hR hb hw
    have HC := Lib.hid (fun W => l8Corners_any s W HW.out)
    obtain ⟨c, hc⟩ : ∃ c, corN s.data.toList = c := ⟨_, rfl⟩
    obtain ⟨h, hh⟩ : ∃ h, s.size / 2 = h := ⟨_, rfl⟩
    rw [hc] at HC hle HR
    rw [hh] at HR
    have hd : (s.size : Int) / 2 = (h : Int) := by omega
    have hd2 : (s.size : Int).tdiv 2 = (h : Int) := by rw [Int.tdiv_eq_ediv_of_nonneg (by omega)]; omega
    have hc10 : c ≤ 10 := by omega
    have hh10 : h ≤ 10 := by omega
    clear hc hh hle
    go_enter Tryd.func23, Tryd.ntmps23
    go_wp2_with (first
      | (go_at_call 50; refine (specWord_any s _ hs HBB.out).mono ?_; rintro e w' ⟨rfl, q1, rfl⟩)
      | (go_at_call 51; refine (HC.out _).mono ?_; rintro e w' ⟨rfl, b⟩; have HB1 := Lib.hid (below_undrewN b); clear b))
    go_ret
    exact ⟨ret_intE (by rw [← HR.out]), HB1.out⟩

set_option maxHeartbeats 800000 in
theorem number_any (w : World) (s : ByteArray) (hw : Word s.data.toList) :
    Calls Tryd.prog 62 #[.string s] w fun e w' => e = .returned (.int .i64 (numN s.data.toList)) ∧ Below w.heap.size w w' := by
  have hle := hw.cor_le; have hlen := hw.len
  rw [len_str] at hle hlen
  obtain ⟨r, hr⟩ : ∃ r, numN s.data.toList = r := ⟨_, rfl⟩
  have HR : Hid ((corN s.data.toList : Int) - (s.size / 2 : Nat) + 1 = r) := by rw [Hid, ← hr, numN, len_str]
  rw [hr]
  have HW := Lib.hid hw; clear hr hw
  have HC := Lib.hid (fun W => wcorners_any s W HW.out)
  obtain ⟨c, hc⟩ : ∃ c, corN s.data.toList = c := ⟨_, rfl⟩
  obtain ⟨h, hh⟩ : ∃ h, s.size / 2 = h := ⟨_, rfl⟩
  rw [hc] at HC hle HR
  rw [hh] at HR
  have hd : (s.size : Int) / 2 = (h : Int) := by omega
  have hd2 : (s.size : Int).tdiv 2 = (h : Int) := by rw [Int.tdiv_eq_ediv_of_nonneg (by omega)]; omega
  have hc10 : c ≤ 10 := by omega
  have hh10 : h ≤ 10 := by omega
  clear hc hh hle
  go_enter Tryd.func62, Tryd.ntmps62
  go_wp2_with (go_at_call 49; refine (HC.out _).mono ?_; rintro e w' ⟨rfl, b⟩; have HB1 := Lib.hid b; clear b)
  go_ret
  exact ⟨ret_intE (by rw [← HR.out]), HB1.out⟩

set_option maxHeartbeats 800000 in
theorem impl_numR (w : World) (s : ByteArray) (hs : s.size ≤ 1048576) {r : Int} (hR : numR s.data.toList = r) :
    Calls Tryd.prog 22 #[.string s] w fun e w' => e = .returned (.int .i64 r) ∧ Below w.heap.size w w' := by
  obtain ⟨b, hb⟩ : ∃ b, wordB s.data.toList = b := ⟨_, rfl⟩
  have HBB := Lib.hid hb
  cases b with
  | false =>
    have HR := Lib.hid ((numR_no hb).symm.trans hR); clear hR hb
    go_enter Tryd.func22, Tryd.ntmps22
    go_wp2_with (go_at_call 39; refine (implWord_any s _ hs HBB.out).mono ?_; rintro e w1 ⟨rfl, b⟩; have HB1 := Lib.hid b; clear b)
    go_ret
    exact ⟨ret_intE HR.out, HB1.out⟩
  | true =>
    have HR := Lib.hid ((numR_yes hb).symm.trans hR)
    have HW := Lib.hid (wordB_iff.1 hb); clear hR hb
    go_enter Tryd.func22, Tryd.ntmps22
    go_wp2_with (first
      | (go_at_call 39; refine (implWord_any s _ hs HBB.out).mono ?_; rintro e w1 ⟨rfl, b⟩; have HB1 := Lib.hid b; clear b)
      | (go_at_call 62; refine (number_any _ s HW.out).mono ?_; rintro e w2 ⟨rfl, b⟩; have HB2 := Lib.hid (HB1.out.trans (b.mono HB1.out.size)); clear b))
    go_ret
    exact ⟨ret_intE HR.out, HB2.out⟩

end Go.Proofs.YtfdliekhlcbkcaaDoor
