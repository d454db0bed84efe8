/-
  The draws of a map and a choice of its edges.
-/
import Derived.Test.YtcenffndclpjoaaDrawFR
import Derived.Test.YtcenffndclpjoaaAppI
namespace Go.Proofs.Ytcenffndclpjoaa
open Go.RowKit

theorem fin_cho {w Wf : World} {x rb n n' c c' E0 : Nat} {A A' : Option Addr} {t f xs : List Int} {u u' v : Value} (hx : Box Wf x 25 u u') (hxw : w.heap.size = x) (r1 : Rd Wf A n t) (r2 : Rd Wf A' n' f)
    (a1 : ∀ ad : Addr, A = some ad → x < ad.block) (a2 : ∀ ad : Addr, A' = some ad → x < ad.block) (ho : Own Wf E0 v xs) (hE : x < E0) (hg : Gr rb w Wf) :
    ∃ W', (Wf.setCell ⟨x, 0, none⟩ (.slice A n c)).setCell ⟨x, 1, none⟩ (.slice A' n' c') = W' ∧ W'.cell? ⟨x, 0, none⟩ = some (.slice A n c) ∧ W'.cell? ⟨x, 1, none⟩ = some (.slice A' n' c') ∧ Rd W' A n t ∧ Rd W' A' n' f ∧ Own W' (w.heap.size + 1) v xs ∧ Gr rb w W' := by
  obtain ⟨hq1, hq2⟩ := hx.store2 (.slice A n c) (.slice A' n' c')
  refine ⟨_, rfl, hq1.cell0, hq1.cell1, r1.gr hq2 (fun ad e _ => by have := a1 ad e; omega), r2.gr hq2 (fun ad e _ => by have := a2 ad e; omega), (ho.grown hq2 ?_).mono (by omega), hg.own hq2 (fun k e => by cases e; omega)⟩
  cases hk : v.ownBlock with
  | none => exact .inl rfl
  | some k => exact .inr (fun e => by injection e with e; have := (ho.lt k hk).1; omega)

/-- An append of a row that a call owns to another one, as a step of a region that draws its order. -/
theorem step_append_row {w : World} {ops : Array Oper} {o : Oper} {a : Act} {K : Act → World → Prop} {Q : Exit → Act → World → Prop} {E : Prop} (hgd : o.guard = none) (s x : Operand) (t : TypeId)
    (ho : o.op = .call { callee := .builtin .append, args := #[s, x], argTypes := #[t, t] }) (ht : Try.prog.underlying t = some (.slice 3)) (base : Nat) (v : Value) (xs : List Int) (hs : a.eval s = v) (hown : Own w base v xs)
    (u : Value) (lo : Nat) (row : List Int) (hx : a.eval x = u) (hu : Own w lo u row) (h63 : xs.length + row.length ≤ 1048576) (hbase : base ≤ w.heap.size)
    (h : ∀ v' w', Own w' base v' (xs ++ row) → w.grownBy w' v.ownBlock → K (a.put o.dst v') w') : if Region.wanted o (yielded ops a.tmps) = true then Oper.wp Try.prog o a w K Q else E := by
  have hw : Region.wanted o (yielded ops a.tmps) = true := by simp [Region.wanted, hgd]
  rw [if_pos hw]
  obtain ⟨i0, hinf, hz0, hz1, hz2⟩ := info_parts info_int
  rcases hu.2 with ⟨rfl, hl⟩ | ⟨g, cap, cur, rfl, hg, hh, hn, hm, hr⟩
  · have e : row = [] := List.length_eq_zero_iff.1 hl
    have hrun := run_append_owned_none (P := Try.prog) (w := w) base t o.type 3 i0 1 ht hinf v xs.length (ints xs) hown
    unfold Oper.wp
    simp [execOp, ho, resolve, invoke, builtin, hs, hx, hrun, Result.andThen]
    exact h v w (by rw [e, List.append_nil]; exact hown) (World.grownBy.refl _ _)
  · have hrd := hu.rd (n := row.length) rfl
    obtain ⟨v', w', hrun, r1, r2, _⟩ := run_append_own (P := Try.prog) (w := w) base t o.type 3 i0 (.int .i64 0) 1 8 ht hinf hz0 hz1 hz2 rfl (by decide) v xs.length (ints xs) hown ⟨g, 0, none⟩ row.length cap (ints row) (by rw [ints_len]; omega) (Rd.news hrd) ints_one (by unfold maxLen; omega) (by omega) hbase
    unfold Oper.wp
    simp [execOp, ho, resolve, invoke, builtin, hs, hx, hrun, Result.andThen]
    refine h v' w' ?_ r2
    unfold Own
    rw [List.length_append, ints, List.map_append]
    exact r1

/-- The same, of a row that is read. -/
theorem step_append_rd {w : World} {ops : Array Oper} {o : Oper} {a : Act} {K : Act → World → Prop} {Q : Exit → Act → World → Prop} {E : Prop} (hgd : o.guard = none) (s x : Operand) (t : TypeId)
    (ho : o.op = .call { callee := .builtin .append, args := #[s, x], argTypes := #[t, t] }) (ht : Try.prog.underlying t = some (.slice 3)) (base : Nat) (v : Value) (xs : List Int) (hs : a.eval s = v) (hown : Own w base v xs)
    (ad : Addr) (m c : Nat) (row : List Int) (hx : a.eval x = .slice (some ad) m c) (hu : Rd w (some ad) m row) (h63 : xs.length + row.length ≤ 1048576) (hbase : base ≤ w.heap.size)
    (h : ∀ v' w', Own w' base v' (xs ++ row) → w.grownBy w' v.ownBlock → K (a.put o.dst v') w') : if Region.wanted o (yielded ops a.tmps) = true then Oper.wp Try.prog o a w K Q else E := by
  have hw : Region.wanted o (yielded ops a.tmps) = true := by simp [Region.wanted, hgd]
  rw [if_pos hw]
  obtain ⟨i0, hinf, hz0, hz1, hz2⟩ := info_parts info_int
  obtain ⟨v', w', hrun, r1, r2, _⟩ := run_append_own (P := Try.prog) (w := w) base t o.type 3 i0 (.int .i64 0) 1 8 ht hinf hz0 hz1 hz2 rfl (by decide) v xs.length (ints xs) hown ad m c (ints row) (by rw [ints_len, hu.1]; omega) (Rd.news hu) ints_one (by have := hu.1; unfold maxLen; omega) (by have := hu.1; omega) hbase
  unfold Oper.wp
  simp [execOp, ho, resolve, invoke, builtin, hs, hx, hrun, Result.andThen]
  refine h v' w' ?_ r2
  unfold Own
  rw [List.length_append, hu.1, ints, List.map_append]
  exact r1

/-- A part of a row that is read. -/
theorem Rd.part {w : World} {ad : Addr} {n : Nat} {xs : List Int} (h : Rd w (some ad) n xs) (i j : Nat) (hij : i ≤ j) (hj : j ≤ n) : Rd w (some (ad.add i)) (j - i) ((xs.take j).drop i) := by
  have hl := h.1
  refine ⟨by rw [List.length_drop, List.length_take]; omega, fun h0 => ⟨_, rfl, fun k hk => ?_⟩⟩
  obtain ⟨ad', e, hc⟩ := h.2 (by omega)
  cases e
  have := hc (i + k) (by omega)
  rw [show (ad.add i).add k = ad.add (i + k) from by unfold Addr.add; (repeat' split) <;> simp_all <;> omega]
  rw [this]
  congr 2
  unfold gi
  rw [List.getD_eq_getElem?_getD, List.getD_eq_getElem?_getD, List.getElem?_drop, List.getElem?_take, if_pos (by omega)]

set_option maxRecDepth 20000 in
set_option maxHeartbeats 1600000 in
theorem choice_any (w : World) (rb q : Nat) (hr : Reads w rb q) (hq : q ≤ 1000) :
    Calls Try.prog 28 #[.pointer (some ⟨rb, 0, none⟩)] w fun e w' => ∃ A A' n n' c c' t f, ∃ (v : Value) (xs : List Int), e = .returned (.tuple #[.agg #[.slice A n c, .slice A' n' c'], v]) ∧ Rd w' A n t ∧ Rd w' A' n' f ∧ n ≤ 12 ∧ n' ≤ 12 ∧ Own w' (w.heap.size + 1) v xs ∧ xs.length ≤ 12 ∧ (∀ ad : Addr, A = some ad → w.heap.size < ad.block) ∧ (∀ ad : Addr, A' = some ad → w.heap.size < ad.block) ∧ Gr rb w w'   := by
  obtain ⟨i0, hinf, hz0, hz1, hz2⟩ := info_parts info_int
  have hlt0 := hr.lt
  obtain ⟨W0, hW0, hx0, hb0, hs0⟩ := Box.local_ w 25 (.slice none 0 0) (.slice none 0 0)
  obtain ⟨x, hx⟩ : ∃ x, w.heap.size = x := ⟨_, rfl⟩
  have HX0 : Hid (Box W0 x 25 (.slice none 0 0) (.slice none 0 0)) := by rw [← hx]; exact hx0
  have HG0 : Hid (Gr rb w W0) := (Gr.refl rb w).of_below hb0
  have HR0 := Lib.hid (hr.below (hb0.mono (by omega)))
  have HXE := Lib.hid hx
  rw [hx] at hs0 hlt0
  have HS0 := Lib.hid hs0
  have HRX := Lib.hid hlt0
  clear hx hx0 hb0 hr hs0 hlt0
  go_enter Try.func28, Try.ntmps28
  go_wp2_with fail
  rw [HXE.out]
  refine (map_any W0 rb q 5 HR0.out (by omega) (by omega) (by omega)).mono ?_
  rintro e w2 ⟨A2, A2', n2, n2', c2, c2', t, f, rfl, r1, r2, hl, hl', a1, a2, ⟨q2, hq2, rd2⟩, g⟩
  have HG2 := Lib.hid (HG0.out.trans g)
  have HX2 := Lib.hid (HX0.out.gr g (by have := HRX.out; omega))
  have HT2 := Lib.hid r1; have HF2 := Lib.hid r2; have HA1 := Lib.hid a1; have HA2 := Lib.hid a2; have HR2 := Lib.hid rd2
  have hsz2 := g.size
  clear r1 r2 a1 a2 rd2 g
  obtain ⟨w3, hW3, hy3, b3, hz3⟩ := Box.local_ w2 25 (.slice A2 n2 c2) (.slice A2' n2' c2')
  obtain ⟨y, hy⟩ : ∃ y, w2.heap.size = y := ⟨_, rfl⟩
  have HY3 : Hid (Box w3 y 25 (.slice A2 n2 c2) (.slice A2' n2' c2')) := by rw [← hy]; exact hy3
  have HX3 := Lib.hid (HX2.out.below b3); have HT3 := Lib.hid (HT2.out.below b3); have HF3 := Lib.hid (HF2.out.below b3); have HR3 := Lib.hid (HR2.out.below (b3.mono (by have := HR2.out.lt; omega)))
  have HG3 := Lib.hid (HG2.out.of_below b3)
  have HYE := Lib.hid hy
  have c0 := HY3.out.cell0; have c1 := HY3.out.cell1
  obtain ⟨h2, hh2⟩ : ∃ h, n2' / 2 = h := ⟨_, rfl⟩
  have hdiv : ((n2' : Nat) : Int).tdiv 2 = (h2 : Int) := by rw [← hh2]; rfl
  have hh6 : h2 ≤ 6 := by omega
  have hwr : IntKind.i64.wrap (h2 : Int) = (h2 : Int) := IntWalk.i64_in _ (by omega)
  have HZ3 := Lib.hid hz3
  clear hy3 b3 hz3 hy HX2 HT2 HF2 HR2 HG2
  go_wp2
  rw [HYE.out]
  have hsz3 : w3.heap.size = y + 1 := by rw [← HYE.out]; exact HZ3.out
  have HSY := Lib.hid hsz3
  obtain ⟨E0, hE0⟩ : ∃ E0, w3.heap.size = E0 := ⟨_, rfl⟩
  have HE0 := Lib.hid hE0
  clear hsz3 hE0
  go_loopw [5, 6] (fun v' i wr => ∃ (v : Value) (k L : Nat) (ys : List Int), v = v' ∧ k ≤ h2 ∧ i = .int .i64 k ∧ Hid (Own wr E0 v ys) ∧ Hid (ys.length = L) ∧ L ≤ k ∧ Hid (∃ q', q' ≤ q + 1000 + k ∧ Reads wr rb q') ∧ Hid (Gr rb w3 wr)) (fun _ i _ => h2 - (intOf i).toNat)
  case atStart =>
    exact ⟨_, 0, 0, [], rfl, Nat.zero_le _, rfl, Own.empty (Nat.le_of_eq HE0.out.symm), rfl, Nat.le_refl _, ⟨q2, by omega, HR3.out.below ((Below.refl _ w3).alloc HR3.out.lt _)⟩, (Gr.refl rb w3).alloc _⟩
  case round =>
    obtain ⟨v, k, L, ys, rfl, hk, rfl, ho, hyl, hL, hrd, hb⟩ := hrel
    have hrx := HRX.out; have hs0 := HS0.out; have hye := HYE.out; have hsy := HSY.out
    have hbs := hb.out.size
    have hYr := HY3.out.gr hb.out (by omega)
    have HYR := Lib.hid hYr
    have d1 := hYr.cell1
    have d0 := hYr.cell0
    clear hYr hrx hs0 hye hsy c0 c1
    by_cases hlt : k < h2
    · have hdl : decide ((k : Int) < (h2 : Int)) = true := by simp; omega
      go_wp2_with fail
      obtain ⟨q', hq', r'⟩ := hrd.out
      refine (pick_reads wr rb q' r' (by omega) 2 (by omega) (by omega)).mono ?_
      rintro e w5 ⟨z, rfl, hz, r1, g1⟩
      have hs1 := g1.size
      have hrb : rb < E0 := by have := HRX.out; have := HS0.out; have := HYE.out; have := HSY.out; have := HE0.out; omega
      have ho1 : Own w5 E0 v ys := ho.out.grown g1 (by
        cases hv : v.ownBlock with
        | none => exact .inl rfl
        | some j => exact .inr (by intro e; injection e with e; have := (ho.out.lt j hv).1; omega))
      have HB1 : Hid (Gr rb w3 w5) := hb.out.trans g1
      have hE5 : E0 ≤ w5.heap.size := by have := HE0.out; omega
      have HO1 : Hid (w5.ownsRow E0 3 1 v L (ints ys)) := by have h := ho1; unfold Own at h; rwa [hyl.out] at h
      have HR1 := Lib.hid r1; clear r1 ho1 g1 r'
      by_cases hz0' : z = 0
      · subst hz0'
        go_wp2_with (at_builtin; refine wpList_append_own _ rfl _ _ 23 rfl E0 3 i0 (.int .i64 0) 1 8 Try.underlying23 hinf hz0 hz1 hz2 rfl (by decide) _ _ _ rfl (HO1.out.alloc _) ⟨w5.heap.size, 0, none⟩ 1 1 [.int .i64 (k : Int)] rfl rfl (cell_one_new _ _ _) (by intro u hu; simp at hu; subst hu; rfl) (by unfold maxLen; omega) (by omega) (by simp; omega) ?_; intro v1 w6 hown1 hgrow1 _)
        have HO := Lib.hid hown1; have HGR := Lib.hid hgrow1; clear hown1 hgrow1
        go_wp2
        go_roundw
        case rel =>
          have he0 := HE0.out
          have ha := app_int (lo := E0) (wr := w5) (L := L) (by omega) (by unfold Own; rw [hyl.out]; exact HO1.out) hyl.out HO.out HGR.out
          have hlow : ∀ j, v.ownBlock = some j → E0 ≤ j := fun j hj => (HO1.out.lt j hj).1
          refine ⟨_, k + 1, L + 1, ys ++ [(k : Int)], rfl, by omega, by go_num, ha.1, by simp [Hid, hyl.out], by omega, ⟨q' + 1, by omega, HR1.out.below (ha.2.mono (by omega))⟩, (HB1.out.alloc _).own HGR.out (fun j hj => by rw [HE0.out]; exact hlow j hj)⟩
        case measure => simp [intOf]; omega
      · have hdz : ((z : Int) == 0) = false := by simp [hz0']
        go_wp2
        go_roundw
        case rel => exact ⟨_, k + 1, L, ys, rfl, by omega, by go_num, by unfold Hid Own; rw [hyl.out]; exact HO1.out, hyl, by omega, ⟨q' + 1, by omega, HR1.out⟩, HB1.out⟩
        case measure => simp [intOf]; omega
    · have hdl : decide ((k : Int) < (h2 : Int)) = false := by simp; omega
      go_wp2_with fail
      obtain ⟨q', hq', r'⟩ := hrd.out
      refine (pick_reads wr rb q' r' (by omega) 30 (by omega) (by omega)).mono ?_
      rintro e w5 ⟨z, rfl, hz, r1, g1⟩
      have hrb : rb < E0 := by have := HRX.out; have := HS0.out; have := HYE.out; have := HSY.out; have := HE0.out; omega
      have hxE : x < E0 := by have := HS0.out; have := HYE.out; have := HSY.out; have := HE0.out; omega
      have hyE : y < E0 := by have := HSY.out; have := HE0.out; omega
      have hs1 := g1.size
      have ho1 : Own w5 E0 v ys := ho.out.grown g1 (by
        cases hv : v.ownBlock with
        | none => exact .inl rfl
        | some j => exact .inr (by intro e; injection e with e; have := (ho.out.lt j hv).1; omega))
      have hE5 : E0 ≤ w5.heap.size := by have := HE0.out; omega
      have G1 : Hid (Gr rb w3 w5) := hb.out.trans g1
      have hrx := HRX.out
      have HO1 := Lib.hid ho1
      have HX5 := Lib.hid (HX3.out.gr G1.out (by omega))
      have HY5 := Lib.hid (HY3.out.gr G1.out (by have := HS0.out; have := HYE.out; omega))
      have HT5 := Lib.hid (HT3.out.gr G1.out (fun ad e _ => by have := HA1.out ad e; have := HS0.out; omega))
      have HF5 := Lib.hid (HF3.out.gr G1.out (fun ad e _ => by have := HA2.out ad e; have := HS0.out; omega))
      have HG5 := Lib.hid (HG3.out.trans G1.out)
      have HAX1 : Hid (∀ ad : Addr, A2 = some ad → x < ad.block) := fun ad e => by have := HA1.out ad e; have := HS0.out; omega
      have HAX2 : Hid (∀ ad : Addr, A2' = some ad → x < ad.block) := fun ad e => by have := HA2.out ad e; have := HS0.out; omega
      have HAB1 : Hid (∀ ad : Addr, A2 = some ad → 0 < n2 → ad.block < E0) := fun ad e h0 => by
        obtain ⟨ad', e', hc⟩ := HT3.out.2 h0
        rw [e] at e'; cases e'
        have := World.block_lt_of_cell? w3 _ (hc 0 h0); rw [add_block] at this; rw [← HE0.out]; exact this
      have HAB2 : Hid (∀ ad : Addr, A2' = some ad → 0 < n2' → ad.block < E0) := fun ad e h0 => by
        obtain ⟨ad', e', hc⟩ := HF3.out.2 h0
        rw [e] at e'; cases e'
        have := World.block_lt_of_cell? w3 _ (hc 0 h0); rw [add_block] at this; rw [← HE0.out]; exact this
      clear g1 r1 r' ho1 hrx d0 d1
      have d0 := HY5.out.cell0
      have d1 := HY5.out.cell1
      have e0 := HX5.out.cell0
      have e1 := HX5.out.cell1
      have e2 := HX5.out.frozen 0
      have e3 := HX5.out.frozen 1
      by_cases z0 : z = 0
      · subst z0
        have HOR : Hid (w5.ownsRow E0 3 1 v L (ints ys)) := by have h := HO1.out; unfold Own at h; rwa [hyl.out] at h
        have hya := HY5.out.below ((Below.refl _ w5).alloc (Nat.le_refl _) (.cells #[.int .i64 (h2 : Int)] 3))
        have m0 := hya.cell0
        have m1 := hya.cell1
        go_wp2_with fail
        go_region_law (refine step_append_lies (o := ⟨some 36, _, _, _, _, _⟩) (hgd := rfl) (s := .tmp 30) (x := .tmp 35) (t := 23) (ho := rfl) (base := E0) (e := 3) (i := i0) (z := .int .i64 0) (size := 1) (bytes := 8) (ht := Try.underlying23) (hi := hinf) (hz := hz0) (hsize := hz1) (hby := hz2) (hzs := rfl) (hsz := by decide) (v := v) (n := L) (xs := ints ys) (hs := by simp [Act.eval]) (hown := World.ownsRow.alloc HOR.out _) (ad := ⟨w5.heap.size, 0, none⟩) (m := 1) (c := 1) (news := [.int .i64 (h2 : Int)]) (hx := by simp [Act.eval]) (hl := rfl) (hnews := cell_one_new _ _ _) (h1 := by intro u hu; simp at hu; subst hu; rfl) (hm := by omega) (h63 := by unfold maxLen; omega) (hbytes := by omega) (hbase := by simp; omega) (H := w5.heap.size + 1) (hH := by simp) (h := ?_); intro g3 c3 w7 hown7 hgrow7 hat7 hlt7; have HN7 := Lib.hid hown7; have HB7 : Hid (Below E0 w5 w7) := (by first | exact ((Below.refl E0 w5).alloc hE5 _).grown hgrow7 (by simp <;> omega) (fun j hj => (HOR.out.lt j hj).1) | exact (below_drewN ((Below.refl E0 w5).alloc hE5 _) _).grown hgrow7 (by simp <;> omega) (fun j hj => (HOR.out.lt j hj).1)); have HG7 : Hid (Gr rb w3 w7) := (by first | exact (G1.out.alloc _).own hgrow7 (fun j hj => by rw [HE0.out]; exact (HOR.out.lt j hj).1) | exact ((G1.out.alloc _).drewN _).own hgrow7 (fun j hj => by rw [HE0.out]; exact (HOR.out.lt j hj).1)); clear hown7 hgrow7 hat7; have HX7 := Lib.hid (HX5.out.over HB7.out hxE); have HY7 := Lib.hid (HY5.out.over HB7.out hyE); have f0 := HY7.out.cell0; have f1 := HY7.out.cell1; have g0 := HX7.out.cell0; have g1 := HX7.out.cell1; have g2 := HX7.out.frozen 0; have g3' := HX7.out.frozen 1)
        all_goals
          have ho7 : Own w7 E0 (.slice (some ⟨g3, 0, none⟩) (L + 1) c3) (ys ++ [(h2 : Int)]) := by
            unfold Own; rw [List.length_append, hyl.out]
            have := HN7.out
            unfold ints at this ⊢
            rw [List.map_append]
            exact this
          have hT7 := HT5.out.over HB7.out HAB1.out
          have hF7 := HF5.out.over HB7.out HAB2.out
          have hG7 : Gr rb w w7 := HG3.out.trans HG7.out
          obtain ⟨W', hW', k0, k1, q1, q2', q3, q4⟩ := fin_cho (c := c2) (c' := c2') HX7.out HXE.out hT7 hF7 HAX1.out HAX2.out ho7 hxE hG7
          have HQ := Lib.hid (And.intro q1 (And.intro q2' (And.intro q3 q4))); clear q1 q2' q3 q4 ho7 hT7 hF7 hG7
          go_simp
          go_wp2
          exact bodyPost_ret (v := .tuple #[.agg #[.slice A2 n2 c2, .slice A2' n2' c2'], .slice (some ⟨g3, 0, none⟩) (L + 1) c3]) (by simp [results, Try.results28, go_sem, k0, k1]) rfl ⟨_, _, _, _, _, _, _, _, _, ys ++ [(h2 : Int)], rfl, HQ.out.1, HQ.out.2.1, hl, hl', HQ.out.2.2.1, by rw [List.length_append, hyl.out]; simp; omega, (fun ad e => by rw [HXE.out]; exact HAX1.out ad e), (fun ad e => by rw [HXE.out]; exact HAX2.out ad e), HQ.out.2.2.2⟩
      have hd0 : ((z : Int) == 0) = false := by simp [z0]
      by_cases z1 : z = 1
      · subst z1
        have hya := HY5.out.below ((Below.refl _ w5).alloc (Nat.le_refl _) (.cells #[.int .i64 (-1)] 3))
        have m0 := hya.cell0
        have m1 := hya.cell1
        have HL1 : Hid (Own (w5.alloc (.cells #[.int .i64 (-1)] 3)) E0 (.slice (some ⟨w5.heap.size, 0, none⟩) 1 1) [-1]) := World.ownsRow_lit w5 #[.int .i64 (-1)] 1 hE5 (by unfold maxLen; omega) rfl
        have HO1' : Hid (Own (w5.alloc (.cells #[.int .i64 (-1)] 3)) E0 v ys) := HO1.out.below ((Below.refl _ _).alloc (Nat.le_refl _) _)
        have HBA : Hid (Below E0 w5 (w5.alloc (.cells #[.int .i64 (-1)] 3))) := (Below.refl E0 w5).alloc hE5 _
        have HGA : Hid (Gr rb w3 (w5.alloc (.cells #[.int .i64 (-1)] 3))) := G1.out.alloc _
        clear hya
        go_wp2_with fail
        go_region_law (refine step_append_row (o := ⟨some 42, _, _, _, _, _⟩) (hgd := rfl) (s := .tmp 40) (x := .tmp 41) (t := 23) (ho := rfl) (ht := Try.underlying23) (base := E0) (v := .slice (some ⟨w5.heap.size, 0, none⟩) 1 1) (xs := [-1]) (hs := by simp [Act.eval]) (hown := (by first | exact HL1.out | exact HL1.out.below (below_drewN (Below.refl _ _) _))) (u := v) (lo := E0) (row := ys) (hx := by simp [Act.eval]) (hu := (by first | exact HO1'.out | exact HO1'.out.below (below_drewN (Below.refl _ _) _))) (h63 := by rw [hyl.out]; simp; omega) (hbase := by simp <;> omega) (h := ?_); intro v7 w7 hown7 hgrow7; have HN7 := Lib.hid hown7; have HB7 : Hid (Below E0 w5 w7) := (by first | exact HBA.out.grown hgrow7 (by simp <;> omega) (fun j hj => (HL1.out.lt j hj).1) | exact (below_drewN HBA.out _).grown hgrow7 (by simp <;> omega) (fun j hj => (HL1.out.lt j hj).1)); have HG7 : Hid (Gr rb w3 w7) := (by first | exact HGA.out.own hgrow7 (fun j hj => by rw [HE0.out]; exact (HL1.out.lt j hj).1) | exact (HGA.out.drewN _).own hgrow7 (fun j hj => by rw [HE0.out]; exact (HL1.out.lt j hj).1)); clear hown7 hgrow7; have HX7 := Lib.hid (HX5.out.over HB7.out hxE); have HY7 := Lib.hid (HY5.out.over HB7.out hyE); have f0 := HY7.out.cell0; have f1 := HY7.out.cell1; have g0 := HX7.out.cell0; have g1 := HX7.out.cell1; have g2 := HX7.out.frozen 0; have g3' := HX7.out.frozen 1)
        all_goals
          have hT7 := HT5.out.over HB7.out HAB1.out
          have hF7 := HF5.out.over HB7.out HAB2.out
          have hG7 : Gr rb w w7 := HG3.out.trans HG7.out
          obtain ⟨W', hW', k0, k1, q1, q2', q3, q4⟩ := fin_cho (c := c2) (c' := c2') HX7.out HXE.out hT7 hF7 HAX1.out HAX2.out HN7.out hxE hG7
          have HQ := Lib.hid (And.intro q1 (And.intro q2' (And.intro q3 q4))); clear q1 q2' q3 q4 hT7 hF7 hG7
          go_simp
          go_wp2
          exact bodyPost_ret (v := .tuple #[.agg #[.slice A2 n2 c2, .slice A2' n2' c2'], v7]) (by simp [results, Try.results28, go_sem, k0, k1]) rfl ⟨_, _, _, _, _, _, _, _, _, [-1] ++ ys, rfl, HQ.out.1, HQ.out.2.1, hl, hl', HQ.out.2.2.1, by rw [List.length_append, hyl.out]; simp; omega, (fun ad e => by rw [HXE.out]; exact HAX1.out ad e), (fun ad e => by rw [HXE.out]; exact HAX2.out ad e), HQ.out.2.2.2⟩
      have hd1 : ((z : Int) == 1) = false := by simp; omega
      by_cases z2 : z = 2
      · subst z2
        go_wp2_with fail
        go_region_law (refine step_append_row (o := ⟨some 48, _, _, _, _, _⟩) (hgd := rfl) (s := .tmp 46) (x := .tmp 47) (t := 23) (ho := rfl) (ht := Try.underlying23) (base := E0) (v := v) (xs := ys) (hs := by simp [Act.eval, Act.put]) (hown := (by first | exact HO1.out | exact HO1.out.below (below_drewN (Below.refl _ _) _))) (u := v) (lo := E0) (row := ys) (hx := by simp [Act.eval, Act.put]) (hu := (by first | exact HO1.out | exact HO1.out.below (below_drewN (Below.refl _ _) _))) (h63 := by rw [hyl.out]; omega) (hbase := by simp <;> omega) (h := ?_); intro v7 w7 hown7 hgrow7; have HN7 := Lib.hid hown7; have HB7 : Hid (Below E0 w5 w7) := (by first | exact (Below.refl E0 w5).grown hgrow7 hE5 (fun j hj => (HO1.out.lt j hj).1) | exact (below_drewN (Below.refl E0 w5) _).grown hgrow7 (by simp <;> omega) (fun j hj => (HO1.out.lt j hj).1)); have HG7 : Hid (Gr rb w3 w7) := (by first | exact G1.out.own hgrow7 (fun j hj => by rw [HE0.out]; exact (HO1.out.lt j hj).1) | exact (G1.out.drewN _).own hgrow7 (fun j hj => by rw [HE0.out]; exact (HO1.out.lt j hj).1)); clear hown7 hgrow7; have HX7 := Lib.hid (HX5.out.over HB7.out hxE); have HY7 := Lib.hid (HY5.out.over HB7.out hyE); have f0 := HY7.out.cell0; have f1 := HY7.out.cell1; have g0 := HX7.out.cell0; have g1 := HX7.out.cell1; have g2 := HX7.out.frozen 0; have g3' := HX7.out.frozen 1)
        all_goals
          have hT7 := HT5.out.over HB7.out HAB1.out
          have hF7 := HF5.out.over HB7.out HAB2.out
          have hG7 : Gr rb w w7 := HG3.out.trans HG7.out
          obtain ⟨W', hW', k0, k1, q1, q2', q3, q4⟩ := fin_cho (c := c2) (c' := c2') HX7.out HXE.out hT7 hF7 HAX1.out HAX2.out HN7.out hxE hG7
          have HQ := Lib.hid (And.intro q1 (And.intro q2' (And.intro q3 q4))); clear q1 q2' q3 q4 hT7 hF7 hG7
          go_simp
          go_wp2
          exact bodyPost_ret (v := .tuple #[.agg #[.slice A2 n2 c2, .slice A2' n2' c2'], v7]) (by simp [results, Try.results28, go_sem, k0, k1]) rfl ⟨_, _, _, _, _, _, _, _, _, ys ++ ys, rfl, HQ.out.1, HQ.out.2.1, hl, hl', HQ.out.2.2.1, by rw [List.length_append, hyl.out]; omega, (fun ad e => by rw [HXE.out]; exact HAX1.out ad e), (fun ad e => by rw [HXE.out]; exact HAX2.out ad e), HQ.out.2.2.2⟩
      have hd2 : ((z : Int) == 2) = false := by simp; omega
      obtain ⟨W', hW', k0, k1, q1, q2', q3, q4⟩ := fin_cho (c := c2) (c' := c2') HX5.out HXE.out HT5.out HF5.out HAX1.out HAX2.out HO1.out hxE HG5.out
      have HQ := Lib.hid (And.intro q1 (And.intro q2' (And.intro q3 q4))); clear q1 q2' q3 q4
      go_wp2_with fail
      exact bodyPost_ret (v := .tuple #[.agg #[.slice A2 n2 c2, .slice A2' n2' c2'], v]) (by simp [results, Try.results28, go_sem, k0, k1]) rfl ⟨_, _, _, _, _, _, _, _, v, ys, rfl, HQ.out.1, HQ.out.2.1, hl, hl', HQ.out.2.2.1, by rw [hyl.out]; omega, (fun ad e => by rw [HXE.out]; exact HAX1.out ad e), (fun ad e => by rw [HXE.out]; exact HAX2.out ad e), HQ.out.2.2.2⟩

set_option maxHeartbeats 800000 in
theorem drawChoiceCounts_any (w : World) (A : Option Addr) (n c : Nat) (bs : List Int) (h : RdB w A n bs) (hn : n ≤ 1048576) (hc : n ≤ c) :
    Calls Try.prog 7 #[.slice A n c] w fun e w' => ∃ A A' n n' c c' t f, ∃ (v : Value) (xs : List Int), e = .returned (.tuple #[.agg #[.slice A n c, .slice A' n' c'], v]) ∧ Rd w' A n t ∧ Rd w' A' n' f ∧ n ≤ 12 ∧ n' ≤ 12 ∧ Own w' w.heap.size v xs ∧ xs.length ≤ 12 ∧ Below w.heap.size w w' := by
  obtain ⟨W0, hW0, hx0, hb0, hs0⟩ := Box.local_ w 25 (.slice none 0 0) (.slice none 0 0)
  obtain ⟨x, hx⟩ : ∃ x, w.heap.size = x := ⟨_, rfl⟩
  have HRB : Hid (RdB W0 A n bs) := ⟨h.1, fun h0 => by
    obtain ⟨ad, e, hcell⟩ := h.2.1 h0
    exact ⟨ad, e, fun j hj => (hb0.cell (World.block_lt_of_cell? w _ (hcell j hj))).trans (hcell j hj)⟩, h.2.2⟩
  have HX0 : Hid (Box W0 x 25 (.slice none 0 0) (.slice none 0 0)) := by rw [← hx]; exact hx0
  have HB0 := Lib.hid hb0
  have HXE := Lib.hid hx
  rw [hx] at hs0
  have HS0 := Lib.hid hs0
  clear hx hx0 hb0 h hs0
  go_enter Try.func7, Try.ntmps7
  go_wp2_with fail
  rw [HXE.out]
  refine (open_reads W0 A n c bs HRB.out hn hc).mono ?_
  rintro e w1 ⟨rfl, r1, b1, s1⟩
  have HX1 := Lib.hid (HX0.out.below b1); have HB1 := Lib.hid (HB0.out.trans (b1.mono HB0.out.size)); have HR1 := Lib.hid r1
  clear r1 b1
  go_wp2_with fail
  refine (choice_any w1 W0.heap.size 0 HR1.out (by omega)).mono ?_
  rintro e w2 ⟨A2, A2', n2, n2', c2, c2', t, f, v, xs, rfl, r1, r2, hl, hl', o, hxl, a1, a2, g⟩
  have hs0 := HS0.out
  have hX2 := HX1.out.gr g (by omega)
  have e0 := hX2.cell0; have e1 := hX2.cell1; have e2 := hX2.frozen 0; have e3 := hX2.frozen 1
  have hB2 : Below w.heap.size w w2 := HB1.out.trans (g.below (by omega) |>.mono (by rw [HXE.out]; omega))
  obtain ⟨hq1, hq2⟩ := hX2.store2 (.slice A2 n2 c2) (.slice A2' n2' c2')
  have k0 := hq1.cell0
  have k1 := hq1.cell1
  have ho : Own ((w2.setCell ⟨x, 0, none⟩ (.slice A2 n2 c2)).setCell ⟨x, 1, none⟩ (.slice A2' n2' c2')) w.heap.size v xs := (o.grown hq2 (by
    cases hk : v.ownBlock with
    | none => exact .inl rfl
    | some k => exact .inr (fun e => by injection e with e; have := (o.lt k hk).1; omega))).mono (by rw [HXE.out]; omega)
  have HQ := Lib.hid (And.intro (r1.gr hq2 (fun ad e _ => by have := a1 ad e; omega)) (And.intro (r2.gr hq2 (fun ad e _ => by have := a2 ad e; omega)) (And.intro ho (hB2.grown hq2 hB2.size (fun k hk => by cases hk; rw [HXE.out]; exact Nat.le_refl _)))))
  clear hs0 g hX2 hB2 r1 r2 a1 a2 hq1 hq2 ho o
  go_wp2_with fail
  exact bodyPost_ret (v := .tuple #[.agg #[.slice A2 n2 c2, .slice A2' n2' c2'], v]) (by simp [results, Try.results7, go_sem, k0, k1]) rfl ⟨_, _, _, _, _, _, _, _, v, xs, rfl, HQ.out.1, HQ.out.2.1, hl, hl', HQ.out.2.2.1, hxl, HQ.out.2.2.2⟩

set_option maxHeartbeats 800000 in
theorem drawChoiceTree_any (w : World) (A : Option Addr) (n c : Nat) (bs : List Int) (h : RdB w A n bs) (hn : n ≤ 1048576) (hc : n ≤ c) :
    Calls Try.prog 14 #[.slice A n c] w fun e w' => ∃ A A' n n' c c' t f, ∃ (v : Value) (xs : List Int), e = .returned (.tuple #[.agg #[.slice A n c, .slice A' n' c'], v]) ∧ Rd w' A n t ∧ Rd w' A' n' f ∧ n ≤ 12 ∧ n' ≤ 12 ∧ Own w' w.heap.size v xs ∧ xs.length ≤ 12 ∧ Below w.heap.size w w' := by
  obtain ⟨W0, hW0, hx0, hb0, hs0⟩ := Box.local_ w 25 (.slice none 0 0) (.slice none 0 0)
  obtain ⟨x, hx⟩ : ∃ x, w.heap.size = x := ⟨_, rfl⟩
  have HRB : Hid (RdB W0 A n bs) := ⟨h.1, fun h0 => by
    obtain ⟨ad, e, hcell⟩ := h.2.1 h0
    exact ⟨ad, e, fun j hj => (hb0.cell (World.block_lt_of_cell? w _ (hcell j hj))).trans (hcell j hj)⟩, h.2.2⟩
  have HX0 : Hid (Box W0 x 25 (.slice none 0 0) (.slice none 0 0)) := by rw [← hx]; exact hx0
  have HB0 := Lib.hid hb0
  have HXE := Lib.hid hx
  rw [hx] at hs0
  have HS0 := Lib.hid hs0
  clear hx hx0 hb0 h hs0
  go_enter Try.func14, Try.ntmps14
  go_wp2_with fail
  rw [HXE.out]
  refine (open_reads W0 A n c bs HRB.out hn hc).mono ?_
  rintro e w1 ⟨rfl, r1, b1, s1⟩
  have HX1 := Lib.hid (HX0.out.below b1); have HB1 := Lib.hid (HB0.out.trans (b1.mono HB0.out.size)); have HR1 := Lib.hid r1
  clear r1 b1
  go_wp2_with fail
  refine (choice_any w1 W0.heap.size 0 HR1.out (by omega)).mono ?_
  rintro e w2 ⟨A2, A2', n2, n2', c2, c2', t, f, v, xs, rfl, r1, r2, hl, hl', o, hxl, a1, a2, g⟩
  have hs0 := HS0.out
  have hX2 := HX1.out.gr g (by omega)
  have e0 := hX2.cell0; have e1 := hX2.cell1; have e2 := hX2.frozen 0; have e3 := hX2.frozen 1
  have hB2 : Below w.heap.size w w2 := HB1.out.trans (g.below (by omega) |>.mono (by rw [HXE.out]; omega))
  obtain ⟨hq1, hq2⟩ := hX2.store2 (.slice A2 n2 c2) (.slice A2' n2' c2')
  have k0 := hq1.cell0
  have k1 := hq1.cell1
  have ho : Own ((w2.setCell ⟨x, 0, none⟩ (.slice A2 n2 c2)).setCell ⟨x, 1, none⟩ (.slice A2' n2' c2')) w.heap.size v xs := (o.grown hq2 (by
    cases hk : v.ownBlock with
    | none => exact .inl rfl
    | some k => exact .inr (fun e => by injection e with e; have := (o.lt k hk).1; omega))).mono (by rw [HXE.out]; omega)
  have HQ := Lib.hid (And.intro (r1.gr hq2 (fun ad e _ => by have := a1 ad e; omega)) (And.intro (r2.gr hq2 (fun ad e _ => by have := a2 ad e; omega)) (And.intro ho (hB2.grown hq2 hB2.size (fun k hk => by cases hk; rw [HXE.out]; exact Nat.le_refl _)))))
  clear hs0 g hX2 hB2 r1 r2 a1 a2 hq1 hq2 ho o
  go_wp2_with fail
  exact bodyPost_ret (v := .tuple #[.agg #[.slice A2 n2 c2, .slice A2' n2' c2'], v]) (by simp [results, Try.results14, go_sem, k0, k1]) rfl ⟨_, _, _, _, _, _, _, _, v, xs, rfl, HQ.out.1, HQ.out.2.1, hl, hl', HQ.out.2.2.1, hxl, HQ.out.2.2.2⟩

end Go.Proofs.Ytcenffndclpjoaa
