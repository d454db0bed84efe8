/-
  The program's orbits: from each point on in turn, what is reached is marked with it.
-/
import Derived.Test.YtcenffndclpjoaaRepeat
import Derived.Test.YtcenffndclpjoaaOrb
import Derived.StillTailTactics
namespace Go.Proofs.Ytcenffndclpjoaa
open Go.RowKit

theorem ints_inj {xs ys : List Int} (h : ints xs = ints ys) : xs = ys := by
  have hl : xs.length = ys.length := by have := congrArg List.length h; simpa [ints_len] using this
  refine eq_of_gi hl fun j hj => ?_
  have h1 := ints_get (xs := xs) hj
  rw [h, ints_get (by omega)] at h1
  simpa using h1.symm
theorem Own.same {w : World} {lo lo' n c g : Nat} {xs ys : List Int} (h : Own w lo (.slice (some ⟨g, 0, none⟩) n c) xs) (k : Own w lo' (.slice (some ⟨g, 0, none⟩) n c) ys) (hx : xs.length = n) (hy : ys.length = n) : xs = ys := by
  obtain ⟨cur, h1, _, _, h2, _⟩ := h.heap hx
  obtain ⟨cur', k1, _, _, k2, _⟩ := k.heap hy
  rw [h1] at k1
  injection k1 with k1
  injection k1 with k1
  subst k1
  exact ints_inj (h2.symm.trans k2)
/-- The last element dropped. -/
theorem Own.cut {w : World} {lo L c g : Nat} {xs : List Int} {s : Int} (h : Own w lo (.slice (some ⟨g, 0, none⟩) (L + 1) c) (xs ++ [s])) (hx : xs.length = L) : Own w lo (.slice (some ⟨g, 0, none⟩) L c) xs := by
  subst hx
  rcases h.2 with ⟨hv, _⟩ | ⟨g', cap, cur, hv, hg, hh, hn, hm, hs, ht⟩
  · simp at hv
  · simp only [Value.slice.injEq, Option.some.injEq, Addr.mk.injEq, and_true] at hv
    obtain ⟨rfl, _, rfl⟩ := hv
    refine ⟨by simp [ints_len], .inr ⟨g, c, cur, rfl, hg, hh, by simp at hn; omega, hm, hs, ?_⟩⟩
    have := congrArg (List.take xs.length) ht
    rw [List.take_take] at this
    simpa [ints, Nat.min_eq_left (Nat.le_succ _)] using this
theorem gi_last {xs : List Int} {s : Int} {L : Nat} (h : xs.length = L) : gi (xs ++ [s]) L = s := by subst h; exact gi_append_last
theorem snoc_of {xs : List Int} {L : Nat} (h : xs.length = L + 1) : ∃ ys s, xs = ys ++ [s] ∧ ys.length = L := by
  refine ⟨xs.dropLast, xs.getLast (by intro e; rw [e] at h; simp at h), (List.dropLast_concat_getLast _).symm, by simp [h]⟩

theorem two_new (w : World) (a b : Value) (t : TypeId) (B : Nat) (hB : w.heap.size = B) : ∀ j u, ([a, b] : List Value)[j]? = some u → (w.alloc (.cells #[a, b] t)).cell? ((⟨B, 0, none⟩ : Addr).add j) = some u := by
  subst hB
  intro j u hj
  have h := heap_alloc_new w (.cells #[a, b] t)
  rw [show (⟨w.heap.size, 0, none⟩ : Addr).add j = ⟨w.heap.size, j, none⟩ from by unfold Addr.add; split <;> simp_all, cell_of_row _ w.heap.size j _ _ (0, 0) h]
  simpa using hj
/-- How many numbers of a row are still bare. -/
noncomputable def bareOf (w : World) (g n c : Nat) : Nat := leastOf fun f => ∃ ls : List Int, ls.length = n ∧ Own w 0 (.slice (some ⟨g, 0, none⟩) n c) ls ∧ f = bare ls
theorem bareOf_eq {w : World} {lo g n c : Nat} {ls : List Int} (h : Own w lo (.slice (some ⟨g, 0, none⟩) n c) ls) (hl : ls.length = n) : bareOf w g n c = bare ls := by
  obtain ⟨⟨ls', h1, h2, h3⟩, _⟩ := leastOf_spec (p := fun f => ∃ ls : List Int, ls.length = n ∧ Own w 0 (.slice (some ⟨g, 0, none⟩) n c) ls ∧ f = bare ls) ⟨bare ls, ls, hl, h.mono (Nat.zero_le _), rfl⟩
  unfold bareOf
  rw [h3, h2.same h h1 hl]
def slen : Value → Nat
  | .slice _ n _ => n
  | _ => 0

set_option maxRecDepth 100000 in
set_option maxHeartbeats 1600000 in
theorem orbits_any (b0 : Nat) (A A' : Option Addr) (n c c' : Nat) (xs ys : List Int) (w : World) (hv0 : w.cell? ⟨b0, 0, none⟩ = some (.slice A' n c')) (h : Rd w A n xs) (h' : Rd w A' n ys) (hp : Vld xs) (hq : Vld ys) :
    Calls Try.prog 84 #[.slice A n c, .slice (some ⟨b0, 0, none⟩) 1 1] w fun e w' => ∃ v, e = .returned v ∧ Own w' w.heap.size v (orbL xs ys) ∧ Below w.heap.size w w' := by
  obtain ⟨i0, hinf, hz0, hz1, hz2⟩ := info_parts info_int
  have hn1 : 1 ≤ n := by rw [← h.1]; exact hp.1
  have hn12 : n ≤ 12 := by rw [← h.1]; exact hp.2.1
  have HP := Lib.hid hp; have HQ := Lib.hid hq
  have HL : Hid (xs.length = ys.length) := by rw [Hid, h.1, h'.1]
  have H := Lib.hid h; have H' := Lib.hid h'
  have Hx := Lib.hid h.1; have Hy := Lib.hid h'.1; clear h h' hp hq
  have HV0 := Lib.hid hv0; have HVB := Lib.hid (World.block_lt_of_cell? w _ hv0); clear hv0
  have HZ := Lib.hid (And.intro hz1 hz2)
  go_enter Try.func84, Try.ntmps84
  go_wp2_with fail
  refine (repeat_int (some ⟨w.heap.size, 0, none⟩) 1 n (-1) _ ⟨rfl, fun _ => ⟨_, rfl, fun j hj => by
    obtain rfl : j = 0 := by omega
    exact cell_one_new _ _ _ 0 _ rfl⟩⟩ hn1 (by omega)).mono ?_
  rintro e w1 ⟨v1, rfl, o, b⟩
  obtain ⟨A1, c1, rfl, -, -⟩ := o.form' (List.length_replicate ..)
  obtain ⟨g, rfl, hg, -, -⟩ := o.cellAt (List.length_replicate ..) (k := 0) (by omega)
  have HO := Lib.hid (o.mono (lo' := w.heap.size) (by simp)); have HB : Hid (Below w.heap.size w w1) := ((Below.refl _ _).alloc (Nat.le_refl _) _).trans (b.mono (by simp)); clear o b
  have hgw : w.heap.size ≤ g := by simp at hg; omega
  clear hg
  go_wp2_with fail
  go_loopw [17] (fun i wr => ∃ (k : Nat) (ls : List Int), k ≤ n ∧ i = .int .i64 k ∧ Hid (Own wr w.heap.size (.slice (some ⟨g, 0, none⟩) n c1) ls) ∧ Hid (Below w.heap.size w wr) ∧ Hid (Firsts xs ys k ls)) (fun i _ => n - (intOf i).toNat)
  case atStart => exact ⟨0, _, Nat.zero_le _, rfl, HO, HB, Firsts.start (by rw [Hx.out]; simp) (fun j hj => gi_replicate (by rw [← Hx.out]; exact hj))⟩
  case round =>
    obtain ⟨k, ls0, hk, rfl, ho, hb, hf⟩ := hrel
    clear HO HB
    have hbs := hb.out.size
    have hgr : g < wr.heap.size := (ho.out.lt g rfl).2
    by_cases hlt : k < n
    · go_wp2_with fail
      go_loopw [7] (fun ov wx' => ∃ (wx : World) (A2 : Option Addr) (L c2 : Nat) (st ls : List Int), wx = wx' ∧ ov = .slice A2 L c2 ∧ L + 2 * bare ls ≤ 25 ∧ Hid (st.length = L) ∧ Hid (Own wx wr.heap.size (.slice A2 L c2) st) ∧ Hid (Own wx w.heap.size (.slice (some ⟨g, 0, none⟩) n c1) ls) ∧ Hid (Below w.heap.size w wx) ∧ Hid (Search xs ys k ls st) ∧ Hid (wr.heap.size ≤ wx.heap.size)) (fun ov wx => 2 * bareOf wx g n c1 + slen ov)
      case atStart =>
        refine ⟨_, _, 1, 1, [(k : Int)], ls0, rfl, rfl, ?_, rfl, ?_, ho.out.below ((Below.refl _ _).alloc (Nat.le_refl _) _), hb.out.alloc hbs _, hf.out.search (by rw [Hx.out]; exact hlt), by simp [Hid]⟩
        · have : bare ls0 ≤ ls0.length := List.count_le_length
          rw [hf.out.len, Hx.out] at this
          omega
        · exact World.ownsRow_lit wr #[.int .i64 (k : Int)] 1 (Nat.le_refl _) (by unfold maxLen; omega) rfl
      case round =>
        clear ho hb
        obtain ⟨wx, A2, L, c2, st, ls, rfl, rfl, hL, hst, hos, ho, hb, hse, hsz⟩ := hrel
        have hll : ls.length = n := by rw [hse.out.len, Hx.out]
        have HLL := Lib.hid hll; clear hll
        cases L with
        | zero =>
          obtain rfl : st = [] := List.eq_nil_of_length_eq_zero hst.out
          go_wp2
          go_roundw
          case rel => exact ⟨k + 1, ls, by omega, by go_num, ho, hb, hse.out.done HP.out HQ.out HL.out⟩
          case measure => simp [intOf]; omega
        | succ L =>
          obtain ⟨st, s, rfl, hsl⟩ := snoc_of hst.out
          obtain ⟨x, rfl, hxn, -⟩ := hse.out.stk s (by simp)
          rw [Hx.out] at hxn
          obtain ⟨g2, rfl, hg2, hc3, -⟩ := hos.out.cellAt hst.out (k := L) (by omega)
          rw [gi_last hsl] at hc3
          obtain ⟨g1, e1, _, hc4, hf4⟩ := ho.out.cellAt HLL.out hxn
          simp only [Option.some.injEq, Addr.mk.injEq, and_true] at e1
          subst e1
          obtain ⟨_, _, _, hLc, _, _⟩ := hos.out.heap hst.out
          have hLc : L ≤ c2 := by omega
          have HSL := Lib.hid hsl; clear hsl
          by_cases hm : gi ls x = -1
          · have hd : decide (0 ≤ gi ls x) = false := by rw [hm]; rfl
            obtain ⟨ad, rfl, hp1⟩ := (H.out.below hb.out).at_ hxn
            obtain ⟨ad', rfl, hp2⟩ := (H'.out.below hb.out).at_ hxn
            have S1 := (ho.out.stored HLL.out x (k : Int)).1
            have G1 := (ho.out.stored HLL.out x (k : Int)).2
            have B1 : Below w.heap.size w (wx.setCell ⟨g, x, none⟩ (.int .i64 (k : Int))) := hb.out.setCell hgw _
            have O1 := (hos.out.cut HSL.out).grown G1 (.inr (fun e => by simp [Value.ownBlock] at e; omega))
            obtain ⟨y, hy, hyn, -⟩ := (HP.out.into Hx.out).nat (j := x) (by rw [Hx.out]; exact hxn)
            obtain ⟨z, hz, hzn, -⟩ := (HQ.out.into Hy.out).nat (j := x) (by rw [Hy.out]; exact hxn)
            obtain ⟨a1, e1, hq1⟩ := (H.out.below B1).at_ hxn
            obtain ⟨a2, e2, hq2⟩ := (H'.out.below B1).at_ hxn
            simp only [Option.some.injEq] at e1 e2
            subst e1 e2
            rw [hy] at hq1
            rw [hz] at hq2
            have HS1 := Lib.hid S1; have HB1 := Lib.hid B1; have HO1 := Lib.hid O1; have HY := Lib.hid hy; have HZZ := Lib.hid hz; have HM := Lib.hid hm
            clear S1 G1 B1 O1 hy hz hp1 hp2 hm hq2
            have hbx := hb.out.size
            have hwrx : wr.heap.size ≤ wx.heap.size := hsz.out
            have hg2w : wr.heap.size ≤ g2 := (hos.out.lt g2 rfl).1
            obtain ⟨W1, hW1⟩ : ∃ W1, wx.setCell ⟨g, x, none⟩ (.int .i64 (k : Int)) = W1 := ⟨_, rfl⟩
            rw [hW1] at HS1 HB1 HO1 hq1
            have hs1 : W1.heap.size = wx.heap.size := by rw [← hW1]; simp
            have hs1' : wx.heap.size ≤ W1.heap.size := by omega
            have HOA : Hid (W1.ownsRow wr.heap.size 3 1 (.slice (some ⟨g2, 0, none⟩) L c2) L (ints st)) := by
              have h1 := HO1.out
              unfold Own at h1
              rwa [HSL.out] at h1
            have HSW := Lib.hid hs1; clear hs1
            go_wp2_with (at_builtin; refine wpList_append_own _ rfl (.tmp 45) (.tmp 50) 23 rfl wr.heap.size 3 i0 (.int .i64 0) 1 8 Try.underlying23 hinf hz0 hz1 hz2 rfl (by decide) (.slice (some ⟨g2, 0, none⟩) L c2) L (ints st) rfl (HOA.out.alloc _) ⟨W1.heap.size, 0, none⟩ 1 1 [.int .i64 (y : Int)] rfl rfl (cell_one_new _ _ _) (by intro u hu; simp at hu; subst hu; rfl) (by unfold maxLen; omega) (by omega) (by rw [World.size_alloc]; omega) ?_; intro v3 w3 hown3 hgrow3 _; have HN3 := Lib.hid hown3; have HG3 := Lib.hid hgrow3; clear hown3 hgrow3)
            clear hW1
            have hst3 : Own w3 wr.heap.size v3 (st ++ [(y : Int)]) := by
              have h1 := HN3.out
              unfold Own
              rw [List.length_append, HSL.out, ints, List.map_append]
              exact h1
            obtain ⟨A3, c3, rfl, -, -⟩ := hst3.form' (n := L + 1) (by rw [List.length_append, HSL.out]; rfl)
            obtain ⟨g3, rfl, -, -, -⟩ := hst3.cellAt (n := L + 1) (by rw [List.length_append, HSL.out]; rfl) (k := 0) (by omega)
            have HST3 := Lib.hid hst3; clear hst3
            have HLS3 : Hid (Own w3 w.heap.size (.slice (some ⟨g, 0, none⟩) n c1) (ls.set x (k : Int))) :=
              Own.grown (World.ownsRow.alloc HS1.out _) HG3.out (.inr (fun e => by simp [Value.ownBlock] at e; omega))
            have HB3 : Hid (Below w.heap.size w w3) := (HB1.out.alloc (by omega) _).grown HG3.out (by rw [World.size_alloc]; omega) (fun r hr => by simp [Value.ownBlock] at hr; omega)
            have HSZ3 : Hid (wr.heap.size ≤ w3.heap.size) := by
              have := HG3.out.size
              rw [World.size_alloc] at this
              rw [Hid]; omega
            go_loopw [7, 54] (fun ov jv wz' => ∃ (wz : World) (j g4 c4 : Nat), wz = wz' ∧ j ≤ 1 ∧ ov = .slice (some ⟨g4, 0, none⟩) (L + 1 + j) c4 ∧ jv = .int .i64 j ∧ Hid (Own wz wr.heap.size (.slice (some ⟨g4, 0, none⟩) (L + 1 + j) c4) (st ++ [(y : Int), (z : Int)].take (j + 1))) ∧ Hid (Own wz w.heap.size (.slice (some ⟨g, 0, none⟩) n c1) (ls.set x (k : Int))) ∧ Hid (Below w.heap.size w wz) ∧ Hid (wr.heap.size ≤ wz.heap.size)) (fun _ jv _ => 1 - (intOf jv).toNat)
            case atStart => exact ⟨_, 0, g3, c3, rfl, by omega, rfl, rfl, HST3.out, HLS3.out, HB3.out, HSZ3.out⟩
            case round =>
              obtain ⟨wz, j, g4, c4, rfl, hj, rfl, rfl, ho4, hls4, hb4, hsz4⟩ := hrel
              by_cases hj1 : j < 1
              · have hj0 : j = 0 := by omega
                subst hj0
                have hcv : wz.cell? ⟨b0, 0, none⟩ = some (.slice (some ad') n c') := (hb4.out.cell HVB.out).trans HV0.out
                obtain ⟨_, e3, hq3⟩ := (H'.out.below hb4.out).at_ hxn
                simp only [Option.some.injEq] at e3
                subst e3
                rw [HZZ.out] at hq3
                have HOA4 : Hid (wz.ownsRow wr.heap.size 3 1 (.slice (some ⟨g4, 0, none⟩) (L + 1 + 0) c4) (L + 1 + 0) (ints (st ++ [(y : Int), (z : Int)].take (0 + 1)))) := by
                  have h1 := ho4.out
                  unfold Own at h1
                  rwa [show (st ++ [(y : Int), (z : Int)].take (0 + 1)).length = L + 1 + 0 from by simp [HSL.out]] at h1
                have hsz4' := hsz4.out
                go_wp2_with (at_builtin; refine wpList_append_own _ rfl (.tmp 58) (.tmp 63) 23 rfl wr.heap.size 3 i0 (.int .i64 0) 1 8 Try.underlying23 hinf hz0 hz1 hz2 rfl (by decide) (.slice (some ⟨g4, 0, none⟩) (L + 1 + 0) c4) _ _ rfl (HOA4.out.alloc _) ⟨wz.heap.size, 0, none⟩ 1 1 [.int .i64 (z : Int)] rfl rfl (cell_one_new _ _ _) (by intro u hu; simp at hu; subst hu; rfl) (by unfold maxLen; omega) (by omega) (by rw [World.size_alloc]; omega) ?_; intro v5 w5 hown5 hgrow5 _; have HN5 := Lib.hid hown5; have HG5 := Lib.hid hgrow5; clear hown5 hgrow5)
                have hlen5 : (st ++ [(y : Int), (z : Int)].take (0 + 1 + 1)).length = L + 1 + (0 + 1) := by simp [HSL.out]
                have hst5 : Own w5 wr.heap.size v5 (st ++ [(y : Int), (z : Int)].take (0 + 1 + 1)) := by
                  have h1 := HN5.out
                  unfold Own
                  rw [hlen5]
                  simpa [ints] using h1
                obtain ⟨A5, c5, rfl, -, -⟩ := hst5.form' hlen5
                obtain ⟨g5, rfl, -, -, -⟩ := hst5.cellAt hlen5 (k := 0) (by omega)
                have HST5 := Lib.hid hst5; clear hst5 hlen5
                have hgw4 : wr.heap.size ≤ g4 := (ho4.out.lt g4 rfl).1
                have HLS5 : Hid (Own w5 w.heap.size (.slice (some ⟨g, 0, none⟩) n c1) (ls.set x (k : Int))) :=
                  Own.grown (World.ownsRow.alloc hls4.out _) HG5.out (.inr (fun e => by simp [Value.ownBlock] at e; omega))
                have HB5 : Hid (Below w.heap.size w w5) := (hb4.out.alloc (by omega) _).grown HG5.out (by rw [World.size_alloc]; omega) (fun r hr => by simp [Value.ownBlock] at hr; omega)
                have HSZ5 : Hid (wr.heap.size ≤ w5.heap.size) := by
                  have := HG5.out.size
                  rw [World.size_alloc] at this
                  rw [Hid]; omega
                go_roundw
                case rel => exact ⟨_, 1, g5, c5, rfl, by omega, rfl, by go_num, HST5.out, HLS5.out, HB5.out, HSZ5.out⟩
                case measure => simp [intOf]
              · have hj1' : j = 1 := by omega
                subst hj1'
                have HSE3 : Hid (Search xs ys k (ls.set x (k : Int)) (st ++ [(y : Int), (z : Int)])) := by
                  have := hse.out.new_mark HP.out HQ.out HL.out HM.out
                  rw [gn_of HY.out, gn_of HZZ.out] at this
                  exact this
                have hbs3 := bare_set (v := (k : Int)) (by rw [HLL.out]; exact hxn) HM.out (by omega)
                go_wp2_with fail
                go_roundw
                case rel => exact ⟨_, _, L + 1 + 1, c4, _, _, rfl, rfl, by omega, by simp [Hid, HSL.out], ho4.out, hls4.out, hb4.out, HSE3.out, hsz4.out⟩
                case measure =>
                  rw [bareOf_eq hls4.out (by simpa using HLL.out), bareOf_eq ho.out HLL.out]
                  simp [slen]; omega
          · have hd : decide (0 ≤ gi ls x) = true := by
              rcases hse.out.val x (by rw [Hx.out]; exact hxn) with h | h
              · exact absurd h hm
              · rw [h.1]; simp
            have HM := Lib.hid hm; clear hm
            have HC := Lib.hid (hos.out.cut HSL.out)
            go_wp2
            go_roundw
            case rel => exact ⟨_, _, L, c2, st, ls, rfl, rfl, by omega, HSL, HC, ho, hb, hse.out.old_mark HM.out, hsz⟩
            case measure => simp [slen]
    · have hkn : k = n := by omega
      have HK := Lib.hid hkn; clear hkn
      go_wp2
      go_ret
      refine ⟨_, rfl, ?_, hb.out⟩
      have e : ls0 = orbL xs ys := Firsts.done (by have := hf.out; rw [HK.out, ← Hx.out] at this; exact this)
      rw [← e]; exact ho.out

end Go.Proofs.Ytcenffndclpjoaa
