/-
  The program's orbits: from each point on in turn, what is reached is marked with it.
-/
import Derived.Test.YtbbidlgdldofdaaRepeat
import Derived.Test.YtbbidlgdldofdaaOrb
import Derived.StillTailTactics
namespace Go.Proofs.Ytbbidlgdldofdaa
open Go.RowKit

theorem ints_inj {xs ys : List Int} (h : ints xs = ints ys) : xs = ys := by
  have hl : xs.length = ys.length := by have := congrArg List.length h; simpa [ints_len] using this
  refine eq_of_gi hl fun j hj => ?_
  have h1 := ints_get (xs := xs) hj
  rw [h, ints_get (by omega)] at h1
  simpa using h1.symm
theorem Own.same {w : World} {lo lo' n c g : Nat} {xs ys : List Int} (h : Own w lo (.slice (some ⟨g, 0, none⟩) n c) xs) (k : Own w lo' (.slice (some ⟨g, 0, none⟩) n c) ys) (hx : xs.length = n) (hy : ys.length = n) : xs = ys := by
  obtain ⟨cur, h1, _, _, h2, _⟩ := h.heap hx
  obtain ⟨cur', k1, _, _, k2, _⟩ := k.heap hy
  rw [h1] at k1
  injection k1 with k1
  injection k1 with k1
  subst k1
  exact ints_inj (h2.symm.trans k2)
/-- The last element dropped. -/
theorem Own.cut {w : World} {lo L c g : Nat} {xs : List Int} {s : Int} (h : Own w lo (.slice (some ⟨g, 0, none⟩) (L + 1) c) (xs ++ [s])) (hx : xs.length = L) : Own w lo (.slice (some ⟨g, 0, none⟩) L c) xs := by
  subst hx
  rcases h.2 with ⟨hv, _⟩ | ⟨g', cap, cur, hv, hg, hh, hn, hm, hs, ht⟩
  · simp at hv
  · simp only [Value.slice.injEq, Option.some.injEq, Addr.mk.injEq, and_true] at hv
    obtain ⟨rfl, _, rfl⟩ := hv
    refine ⟨by simp [ints_len], .inr ⟨g, c, cur, rfl, hg, hh, by simp at hn; omega, hm, hs, ?_⟩⟩
    have := congrArg (List.take xs.length) ht
    rw [List.take_take] at this
    simpa [ints, Nat.min_eq_left (Nat.le_succ _)] using this
theorem gi_last {xs : List Int} {s : Int} {L : Nat} (h : xs.length = L) : gi (xs ++ [s]) L = s := by subst h; exact gi_append_last
theorem snoc_of {xs : List Int} {L : Nat} (h : xs.length = L + 1) : ∃ ys s, xs = ys ++ [s] ∧ ys.length = L := by
  refine ⟨xs.dropLast, xs.getLast (by intro e; rw [e] at h; simp at h), (List.dropLast_concat_getLast _).symm, by simp [h]⟩

theorem two_new (w : World) (a b : Value) (t : TypeId) (B : Nat) (hB : w.heap.size = B) : ∀ j u, ([a, b] : List Value)[j]? = some u → (w.alloc (.cells #[a, b] t)).cell? ((⟨B, 0, none⟩ : Addr).add j) = some u := by
  subst hB
  intro j u hj
  have h := heap_alloc_new w (.cells #[a, b] t)
  rw [show (⟨w.heap.size, 0, none⟩ : Addr).add j = ⟨w.heap.size, j, none⟩ from by unfold Addr.add; split <;> simp_all, cell_of_row _ w.heap.size j _ _ (0, 0) h]
  simpa using hj
/-- How many numbers of a row are still bare. -/
noncomputable def bareOf (w : World) (g n c : Nat) : Nat := leastOf fun f => ∃ ls : List Int, ls.length = n ∧ Own w 0 (.slice (some ⟨g, 0, none⟩) n c) ls ∧ f = bare ls
theorem bareOf_eq {w : World} {lo g n c : Nat} {ls : List Int} (h : Own w lo (.slice (some ⟨g, 0, none⟩) n c) ls) (hl : ls.length = n) : bareOf w g n c = bare ls := by
  obtain ⟨⟨ls', h1, h2, h3⟩, _⟩ := leastOf_spec (p := fun f => ∃ ls : List Int, ls.length = n ∧ Own w 0 (.slice (some ⟨g, 0, none⟩) n c) ls ∧ f = bare ls) ⟨bare ls, ls, hl, h.mono (Nat.zero_le _), rfl⟩
  unfold bareOf
  rw [h3, h2.same h h1 hl]
def slen : Value → Nat
  | .slice _ n _ => n
  | _ => 0

set_option maxRecDepth 100000 in
set_option maxHeartbeats 1600000 in
theorem orbits_any (A A' : Option Addr) (n c c' : Nat) (xs ys : List Int) (w : World) (h : Rd w A n xs) (h' : Rd w A' n ys) (hp : Vld xs) (hq : Vld ys) :
    Calls Try.prog 40 #[.slice A n c, .slice A' n c'] w fun e w' => ∃ v, e = .returned v ∧ Own w' w.heap.size v (orbL xs ys) ∧ Below w.heap.size w w' := by
  obtain ⟨i0, hinf, hz0, hz1, hz2⟩ := info_parts info_int
  have hn1 : 1 ≤ n := by rw [← h.1]; exact hp.1
  have hn12 : n ≤ 12 := by rw [← h.1]; exact hp.2.1
  have HP := Lib.hid hp; have HQ := Lib.hid hq
  have HL : Hid (xs.length = ys.length) := by rw [Hid, h.1, h'.1]
  have H := Lib.hid h; have H' := Lib.hid h'
  have Hx := Lib.hid h.1; have Hy := Lib.hid h'.1; clear h h' hp hq
  have HZ := Lib.hid (And.intro hz1 hz2)
  go_enter Try.func40, Try.ntmps40
  go_wp2_with fail
  refine (repeat_int (some ⟨w.heap.size, 0, none⟩) 1 n (-1) _ ⟨rfl, fun _ => ⟨_, rfl, fun j hj => by
    obtain rfl : j = 0 := by omega
    exact cell_one_new _ _ _ 0 _ rfl⟩⟩ hn1 hn12).mono ?_
  rintro e w1 ⟨v1, rfl, o, b⟩
  obtain ⟨A1, c1, rfl, -, -⟩ := o.form' (List.length_replicate ..)
  obtain ⟨g, rfl, hg, -, -⟩ := o.cellAt (List.length_replicate ..) (k := 0) (by omega)
  have HO := Lib.hid (o.mono (lo' := w.heap.size) (by simp)); have HB : Hid (Below w.heap.size w w1) := ((Below.refl _ _).alloc (Nat.le_refl _) _).trans (b.mono (by simp)); clear o b
  have hgw : w.heap.size ≤ g := by simp at hg; omega
  clear hg
  go_wp2_with fail
  go_loopw [15] (fun i wr => ∃ (k : Nat) (ls : List Int), k ≤ n ∧ i = .int .i64 k ∧ Hid (Own wr w.heap.size (.slice (some ⟨g, 0, none⟩) n c1) ls) ∧ Hid (Below w.heap.size w wr) ∧ Hid (Firsts xs ys k ls)) (fun i _ => n - (intOf i).toNat)
  case atStart => exact ⟨0, _, Nat.zero_le _, rfl, HO, HB, Firsts.start (by rw [Hx.out]; simp) (fun j hj => gi_replicate (by rw [← Hx.out]; exact hj))⟩
  case round =>
    obtain ⟨k, ls0, hk, rfl, ho, hb, hf⟩ := hrel
    clear HO HB
    have hbs := hb.out.size
    have hgr : g < wr.heap.size := (ho.out.lt g rfl).2
    by_cases hlt : k < n
    · go_wp2_with fail
      go_loopw [7] (fun ov wx' => ∃ (wx : World) (A2 : Option Addr) (L c2 : Nat) (st ls : List Int), wx = wx' ∧ ov = .slice A2 L c2 ∧ L + 2 * bare ls ≤ 25 ∧ Hid (st.length = L) ∧ Hid (Own wx wr.heap.size (.slice A2 L c2) st) ∧ Hid (Own wx w.heap.size (.slice (some ⟨g, 0, none⟩) n c1) ls) ∧ Hid (Below w.heap.size w wx) ∧ Hid (Search xs ys k ls st) ∧ Hid (wr.heap.size ≤ wx.heap.size)) (fun ov wx => 2 * bareOf wx g n c1 + slen ov)
      case atStart =>
        refine ⟨_, _, 1, 1, [(k : Int)], ls0, rfl, rfl, ?_, rfl, ?_, ho.out.below ((Below.refl _ _).alloc (Nat.le_refl _) _), hb.out.alloc hbs _, hf.out.search (by rw [Hx.out]; exact hlt), by simp [Hid]⟩
        · have : bare ls0 ≤ ls0.length := List.count_le_length
          rw [hf.out.len, Hx.out] at this
          omega
        · exact World.ownsRow_lit wr #[.int .i64 (k : Int)] 1 (Nat.le_refl _) (by unfold maxLen; omega) rfl
      case round =>
        clear ho hb
        obtain ⟨wx, A2, L, c2, st, ls, rfl, rfl, hL, hst, hos, ho, hb, hse, hsz⟩ := hrel
        have hll : ls.length = n := by rw [hse.out.len, Hx.out]
        have HLL := Lib.hid hll; clear hll
        cases L with
        | zero =>
          obtain rfl : st = [] := List.eq_nil_of_length_eq_zero hst.out
          go_wp2
          go_roundw
          case rel => exact ⟨k + 1, ls, by omega, by go_num, ho, hb, hse.out.done HP.out HQ.out HL.out⟩
          case measure => simp [intOf]; omega
        | succ L =>
          obtain ⟨st, s, rfl, hsl⟩ := snoc_of hst.out
          obtain ⟨x, rfl, hxn, -⟩ := hse.out.stk s (by simp)
          rw [Hx.out] at hxn
          obtain ⟨g2, rfl, hg2, hc3, -⟩ := hos.out.cellAt hst.out (k := L) (by omega)
          rw [gi_last hsl] at hc3
          obtain ⟨g1, e1, _, hc4, hf4⟩ := ho.out.cellAt HLL.out hxn
          simp only [Option.some.injEq, Addr.mk.injEq, and_true] at e1
          subst e1
          obtain ⟨_, _, _, hLc, _, _⟩ := hos.out.heap hst.out
          have hLc : L ≤ c2 := by omega
          have HSL := Lib.hid hsl; clear hsl
          by_cases hm : gi ls x = -1
          · have hd : decide (0 ≤ gi ls x) = false := by rw [hm]; rfl
            obtain ⟨ad, rfl, hp1⟩ := (H.out.below hb.out).at_ hxn
            obtain ⟨ad', rfl, hp2⟩ := (H'.out.below hb.out).at_ hxn
            have S1 := (ho.out.stored HLL.out x (k : Int)).1
            have G1 := (ho.out.stored HLL.out x (k : Int)).2
            have B1 : Below w.heap.size w (wx.setCell ⟨g, x, none⟩ (.int .i64 (k : Int))) := hb.out.setCell hgw _
            have O1 := (hos.out.cut HSL.out).grown G1 (.inr (fun e => by simp [Value.ownBlock] at e; omega))
            obtain ⟨y, hy, hyn, -⟩ := (HP.out.into Hx.out).nat (j := x) (by rw [Hx.out]; exact hxn)
            obtain ⟨z, hz, hzn, -⟩ := (HQ.out.into Hy.out).nat (j := x) (by rw [Hy.out]; exact hxn)
            obtain ⟨a1, e1, hq1⟩ := (H.out.below B1).at_ hxn
            obtain ⟨a2, e2, hq2⟩ := (H'.out.below B1).at_ hxn
            simp only [Option.some.injEq] at e1 e2
            subst e1 e2
            rw [hy] at hq1
            rw [hz] at hq2
            have HS1 := Lib.hid S1; have HB1 := Lib.hid B1; have HO1 := Lib.hid O1; have HY := Lib.hid hy; have HZZ := Lib.hid hz; have HM := Lib.hid hm
            clear S1 G1 B1 O1 hy hz hp1 hp2 hm
            go_wp2
            have hbx := hb.out.size
            have hwrx : wr.heap.size ≤ wx.heap.size := hsz.out
            have hLm : L + 2 ≤ maxLen := by unfold maxLen; omega
            have hnews := two_new (wx.setCell ⟨g, x, none⟩ (.int .i64 (k : Int))).drew (.int .i64 (y : Int)) (.int .i64 (z : Int)) 3 wx.heap.size (by simp)
            have HNW := Lib.hid hnews; clear hnews
            have HOA : Hid ((((wx.setCell ⟨g, x, none⟩ (.int .i64 (k : Int))).drew).alloc (.cells #[.int .i64 (y : Int), .int .i64 (z : Int)] 3)).ownsRow wr.heap.size 3 1 (.slice (some ⟨g2, 0, none⟩) L c2) L (ints st)) := by
              have h1 := HO1.out
              unfold Own at h1
              rw [HSL.out] at h1
              exact World.ownsRow.alloc (w := (wx.setCell ⟨g, x, none⟩ (.int .i64 (k : Int))).drew) h1 _
            go_region_law (refine step_append_lies (o := ⟨some 53, _, _, _, _, _⟩) (hgd := rfl) (s := .tmp 43) (x := .tmp 52) (t := 23) (ho := rfl) (base := wr.heap.size) (e := 3) (i := i0) (z := .int .i64 0) (size := 1) (bytes := 8) (ht := Try.underlying23) (hi := hinf) (hz := hz0) (hsize := hz1) (hby := hz2) (hzs := rfl) (hsz := by decide) (v := .slice (some ⟨g2, 0, none⟩) L c2) (n := L) (xs := ints st) (hs := by simp [Act.eval]) (hown := HOA.out) (ad := ⟨wx.heap.size, 0, none⟩) (m := 2) (c := 2) (news := [.int .i64 (y : Int), .int .i64 (z : Int)]) (hx := by simp [Act.eval]) (hl := rfl) (hnews := HNW.out) (h1 := by intro u hu; simp at hu; rcases hu with rfl | rfl <;> rfl) (hm := by omega) (h63 := hLm) (hbytes := by omega) (hbase := by simp; omega) (H := wx.heap.size + 1) (hH := by simp) (h := ?_); intro g3 c3 w3 hown3 hgrow3 hat3 hlt3)
            all_goals
              have HST3 : Hid (Own w3 wr.heap.size (.slice (some ⟨g3, 0, none⟩) (L + 2) c3) (st ++ [(y : Int), (z : Int)])) := by
                have e : (st ++ [(y : Int), (z : Int)]).length = L + 2 := by simp [HSL.out]
                unfold Own
                rw [Hid, e]
                simpa [ints] using hown3
              have HLS3 : Hid (Own w3 w.heap.size (.slice (some ⟨g, 0, none⟩) n c1) (ls.set x (k : Int))) :=
                Own.grown (w := ((wx.setCell ⟨g, x, none⟩ (.int .i64 (k : Int))).alloc (.cells #[.int .i64 (y : Int), .int .i64 (z : Int)] 3)).drew) (World.ownsRow.alloc HS1.out _) hgrow3 (.inr (fun e => by simp [Value.ownBlock] at e; omega))
              have HB3 : Hid (Below w.heap.size w w3) := by
                have h0 : Below w.heap.size w (((wx.setCell ⟨g, x, none⟩ (.int .i64 (k : Int))).alloc (.cells #[.int .i64 (y : Int), .int .i64 (z : Int)] 3)).drew) := below_drewN (HB1.out.alloc (by simpa using hbx) _) 1
                refine h0.grown hgrow3 (by simp; omega) (fun r hr => ?_)
                simp [Value.ownBlock] at hr
                omega
              have HSZ3 : Hid (wr.heap.size ≤ w3.heap.size) := by
                have := hgrow3.size
                simp at this
                rw [Hid]; omega
              have HSE3 : Hid (Search xs ys k (ls.set x (k : Int)) (st ++ [(y : Int), (z : Int)])) := by
                have := hse.out.new_mark HP.out HQ.out HL.out HM.out
                rw [gn_of HY.out, gn_of HZZ.out] at this
                exact this
              have hbs3 := bare_set (v := (k : Int)) (by rw [HLL.out]; exact hxn) HM.out (by omega)
              clear hown3 hgrow3 hat3 hlt3
              simp only [List.getElem_toArray, List.getElem_cons_succ, List.getElem_cons_zero]
              go_simp
              go_wp2
              go_roundw
              case rel => exact ⟨_, _, L + 2, c3, _, _, rfl, rfl, by omega, by simp [Hid, HSL.out], HST3.out, HLS3.out, HB3.out, HSE3.out, HSZ3.out⟩
              case measure =>
                rw [bareOf_eq HLS3.out (by simpa using HLL.out), bareOf_eq ho.out HLL.out]
                simp [slen]; omega
          · have hd : decide (0 ≤ gi ls x) = true := by
              rcases hse.out.val x (by rw [Hx.out]; exact hxn) with h | h
              · exact absurd h hm
              · rw [h.1]; simp
            have HM := Lib.hid hm; clear hm
            have HC := Lib.hid (hos.out.cut HSL.out)
            go_wp2
            go_roundw
            case rel => exact ⟨_, _, L, c2, st, ls, rfl, rfl, by omega, HSL, HC, ho, hb, hse.out.old_mark HM.out, hsz⟩
            case measure => simp [slen]
    · have hkn : k = n := by omega
      have HK := Lib.hid hkn; clear hkn
      go_wp2
      go_ret
      refine ⟨_, rfl, ?_, hb.out⟩
      have e : ls0 = orbL xs ys := Firsts.done (by have := hf.out; rw [HK.out, ← Hx.out] at this; exact this)
      rw [← e]; exact ho.out

end Go.Proofs.Ytbbidlgdldofdaa
