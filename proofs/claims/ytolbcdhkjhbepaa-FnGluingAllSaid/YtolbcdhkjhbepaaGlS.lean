/-
  The model's list of all gluings that go on from some partners.
-/
import Derived.Test.YtolbcdhkjhbepaaGluE
import Derived.Test.YtolbcdhkjhbepaaSeen
import Derived.Test.YtolbcdhkjhbepaaKit
import Derived.Test.YtolbcdhkjhbepaaCopy
namespace Go.Proofs.Ytolbcdhkjhbepaa
open Go.RowKit
set_option linter.unusedVariables false
attribute [local go_sem] Oper.semAt_some

theorem comps_len : ∀ (f : Nat) (p : List Int), p.length ≤ 10 → (comps f p).length ≤ 10 ^ f
  | 0, p, _ => by simp [comps]
  | f + 1, p, h => by
    rcases Nat.lt_or_ge (ff p) p.length with c | c
    · rw [comps_more f c]
      have key : ∀ k, (compU f p k).length ≤ k * 10 ^ f := by
        intro k
        induction k with
        | zero => simp [compU]
        | succ k ih =>
          rw [compU_succ, List.length_append, Nat.succ_mul]
          have : (if ff p < k ∧ gi p k = -1 then comps f (gluedL p (ff p) k) else []).length ≤ 10 ^ f := by
            split
            · exact comps_len f _ (by rw [gluedL_len]; exact h)
            · exact Nat.zero_le _
          omega
      refine Nat.le_trans (key p.length) ?_
      rw [Nat.pow_succ, Nat.mul_comm]
      exact Nat.mul_le_mul_left _ h
    · rw [comps_full (by have := ff_le p; omega)]
      exact Nat.one_le_pow _ _ (by omega)
theorem compU_len (f : Nat) (p : List Int) (h : p.length ≤ 10) : ∀ k, (compU f p k).length ≤ k * 10 ^ f
  | 0 => by simp [compU]
  | k + 1 => by
    rw [compU_succ, List.length_append, Nat.succ_mul]
    have := compU_len f p h k
    have : (if ff p < k ∧ gi p k = -1 then comps f (gluedL p (ff p) k) else []).length ≤ 10 ^ f := by
      split
      · exact comps_len f _ (by rw [gluedL_len]; exact h)
      · exact Nat.zero_le _
    omega

/-- Rows of one slice of slices behind those of another one. -/
theorem OwnSS.concat {w w1 : World} {lo hi hi2 hi' : Nat} {v v1 : Value} {xss yss : List (List Int)} {vs us : List Value}
    (hl : vs.length = xss.length) (hr : ∀ j, j < xss.length → Own w lo (vs.getD j undef) (xss.getD j []) ∧ ∀ k, (vs.getD j undef).ownBlock = some k → k < hi)
    (hd : ∀ j, j < xss.length → ∀ i, i < j → (vs.getD i undef).ownBlock = none ∨ (vs.getD i undef).ownBlock ≠ (vs.getD j undef).ownBlock)
    (hv : w.ownsRow lo 35 1 v xss.length vs)
    (hl2 : us.length = yss.length) (hr2 : ∀ j, j < yss.length → Own w hi (us.getD j undef) (yss.getD j []) ∧ ∀ k, (us.getD j undef).ownBlock = some k → k < hi2)
    (hd2 : ∀ j, j < yss.length → ∀ i, i < j → (us.getD i undef).ownBlock = none ∨ (us.getD i undef).ownBlock ≠ (us.getD j undef).ownBlock)
    (h1 : lo ≤ hi) (h2 : hi ≤ hi2) (hh : hi2 ≤ hi')
    (ho : w1.ownsRow lo 35 1 v1 (xss.length + yss.length) (vs ++ us)) (hg : w.grownBy w1 v.ownBlock) : OwnSS w1 lo hi' v1 (xss ++ yss) := by
  have key : ∀ {x : Value} {ys : List Int} {lo' : Nat}, Own w lo' x ys → Own w1 lo' x ys := fun {x ys lo'} hx => by
    refine hx.grown hg ?_
    rcases hv.2 with ⟨rfl, _⟩ | ⟨g, cap, cur, rfl, _, hh, _⟩
    · cases hb : x.ownBlock with
      | none => exact .inl rfl
      | some k => exact .inr (by simp [Value.ownBlock])
    · rcases hx.2 with ⟨rfl, _⟩ | ⟨g', cap', cur', rfl, _, hh', _⟩
      · exact .inl rfl
      · refine .inr fun e => ?_
        have : g' = g := by simpa [Value.ownBlock] using e
        subst this
        rw [hh] at hh'
        injection hh' with hh'
        injection hh' with _ ht
        exact absurd ht (by decide)
  have gl : ∀ j, j < xss.length → (vs ++ us).getD j undef = vs.getD j undef := fun j hj => getD_append_left vs us _ (by omega)
  have gl' : ∀ j, j < xss.length → (xss ++ yss).getD j [] = xss.getD j [] := fun j hj => getD_append_left' xss yss _ hj
  have gr : ∀ j, (vs ++ us).getD (xss.length + j) undef = us.getD j undef := fun j => by
    rw [← hl, List.getD_eq_getElem?_getD, List.getElem?_append_right (by omega), Nat.add_sub_cancel_left, List.getD_eq_getElem?_getD]
  have gr' : ∀ j, (xss ++ yss).getD (xss.length + j) [] = yss.getD j [] := fun j => by
    rw [List.getD_eq_getElem?_getD, List.getElem?_append_right (by omega), Nat.add_sub_cancel_left, List.getD_eq_getElem?_getD]
  refine ⟨vs ++ us, by simp [hl, hl2], by simpa using ho, fun j hj => ?_, fun j hj i hij => ?_⟩
  · rw [List.length_append] at hj
    rcases Nat.lt_or_ge j xss.length with e | e
    · rw [gl j e, gl' j e]
      exact ⟨key (hr j e).1, fun k hk => by have := (hr j e).2 k hk; omega⟩
    · obtain ⟨d, rfl⟩ : ∃ d, j = xss.length + d := ⟨j - xss.length, by omega⟩
      rw [gr, gr']
      have := hr2 d (by omega)
      exact ⟨key (this.1.mono h1), fun k hk => by have := this.2 k hk; omega⟩
  · rw [List.length_append] at hj
    rcases Nat.lt_or_ge j xss.length with e | e
    · rw [gl j e, gl i (by omega)]; exact hd j e i hij
    · obtain ⟨d, rfl⟩ : ∃ d, j = xss.length + d := ⟨j - xss.length, by omega⟩
      rw [gr]
      rcases Nat.lt_or_ge i xss.length with e' | e'
      · rw [gl i e']
        exact ne_of (m := hi) (fun k hk => (hr i e').2 k hk) (fun k hk => ((hr2 d (by omega)).1.lt k hk).1)
      · obtain ⟨d', rfl⟩ : ∃ d, i = xss.length + d := ⟨i - xss.length, by omega⟩
        rw [gr]; exact hd2 d (by omega) d' (by omega)

theorem own_some {w : World} {lo n size : Nat} {t : TypeId} {v : Value} {xs : List Value} (h : w.ownsRow lo t size v n xs) (hv : v ≠ .slice none 0 0) : ∃ g c, v = .slice (some ⟨g, 0, none⟩) n c := by
  rcases h.2 with ⟨e, _⟩ | ⟨g, cap, cur, rfl, _⟩
  · exact absurd e hv
  · exact ⟨g, cap, rfl⟩
theorem one_cells {w : World} {lo hi m : Nat} {us : List Value} {yss : List (List Int)} (hl : us.length = m) (hr : ∀ j, j < yss.length → Own w lo (us.getD j undef) (yss.getD j []) ∧ ∀ k, (us.getD j undef).ownBlock = some k → k < hi) (hm : yss.length = m) : ∀ u ∈ us, u.oneCell' = true := by
  intro u hu
  obtain ⟨j, hj, rfl⟩ := List.mem_iff_getElem.1 hu
  have h := (hr j (by omega)).1
  have e : us.getD j undef = us[j] := by simp [List.getD, hj]
  rw [e] at h
  obtain ⟨A, c, e2, -, -⟩ := h.form
  rw [e2]; rfl
/-- What the model's list of gluings keeps. -/
def AllAt (f : Nat) (xs : List Int) : Prop := ∀ (w : World) (lo : Nat) (A : Option Addr) (c n : Nat), Own w lo (.slice A n c) xs → lo ≤ w.heap.size → xs.length = n → PG xs → 1 ≤ n → n ≤ 10 →
    Calls Try.prog 36 #[.slice A n c] w fun e w' => ∃ g m cc, e = .returned (.slice (some ⟨g, 0, none⟩) m cc) ∧ (comps f xs).length = m ∧ OwnSS w' lo w'.heap.size (.slice (some ⟨g, 0, none⟩) m cc) (comps f xs) ∧ Below w.heap.size w w'

theorem one_row {w : World} {lo : Nat} {v : Value} {xs : List Int} (h : Own w lo v xs) (hlo : lo ≤ w.heap.size) :
    OwnSS (w.alloc (.cells #[v] 35)) lo (w.alloc (.cells #[v] 35)).heap.size (.slice (some ⟨w.heap.size, 0, none⟩) 1 1) [xs] := by
  have hb : Below w.heap.size w (w.alloc (.cells #[v] 35)) := (Below.refl _ _).alloc (Nat.le_refl _) _
  refine ⟨[v], rfl, World.ownsRow_lit w #[v] 1 hlo (by unfold maxLen; omega) rfl, fun j hj => ?_, fun j hj i hij => ?_⟩
  · obtain rfl : j = 0 := by simpa using hj
    exact ⟨h.below hb, fun k hk => by have := (h.lt k hk).2; simp; omega⟩
  · simp at hj; omega

set_option maxRecDepth 20000 in
set_option maxHeartbeats 3200000 in
theorem l4All_step (f : Nat) (xs : List Int) (hf : ff xs = xs.length ∨ ∃ f', f = f' + 1 ∧ f' ≤ 4 ∧ ∀ k, ff xs < k → k < xs.length → gi xs k = -1 → AllAt f' (gluedL xs (ff xs) k)) : AllAt f xs := by
  intro w lo A c n ho hlo hxl hpg hn1 hn10
  obtain ⟨i1, hinf1, hy0, hy1, hy2⟩ := info_parts info_slice
  have HF := Lib.hid hf; have HO := Lib.hid ho; have Hx := Lib.hid hxl; have HPG := Lib.hid hpg
  obtain ⟨s, hs⟩ : ∃ s, ff xs = s := ⟨_, rfl⟩
  have hsn : s ≤ n := by have := ff_le xs; omega
  have hlow : ∀ j, j < s → 0 ≤ gi xs j := fun j hj => by
    have h1 := ff_low (p := xs) (j := j) (by omega)
    rcases hpg j (by omega) with h | h
    · exact absurd h h1
    · exact h.1
  have hat : s < n → gi xs s = -1 := fun h => by rw [← hs]; exact ff_at (by rw [hs, hxl]; exact h)
  have HLOW := Lib.hid hlow; have HS := Lib.hid hs; have HAT := Lib.hid hat
  clear hf ho hpg hlow hxl hat hs
  obtain ⟨g, rfl, hgl, -, -⟩ := HO.out.cellAt Hx.out (k := 0) (by omega)
  go_enter Try.func36, Try.ntmps36
  go_wp2_with fail
  go_loop [3] (fun iv => ∃ k : Nat, k ≤ s ∧ iv = .int .i64 k) (fun iv => n - (intOf iv).toNat)
  case atStart => exact ⟨0, Nat.zero_le _, rfl⟩
  case round =>
    obtain ⟨k, hk, rfl⟩ := hrel
    by_cases hks : k < s
    · have hkn : k < n := by omega
      obtain ⟨_, e1, -, hc, -⟩ := HO.out.cellAt Hx.out hkn
      simp only [Option.some.injEq, Addr.mk.injEq, and_true] at e1
      subst e1
      have hge : decide ((0 : Int) ≤ gi xs k) = true := decide_eq_true (HLOW.out k hks)
      go_wp2_with fail
      go_round
      case rel => exact ⟨k + 1, by omega, by go_num⟩
      case measure => simp [intOf]; omega
    · obtain rfl : k = s := by omega
      by_cases hkn : k < n
      · obtain ⟨_, e1, -, hc, -⟩ := HO.out.cellAt Hx.out hkn
        simp only [Option.some.injEq, Addr.mk.injEq, and_true] at e1
        subst e1
        have hv := HAT.out hkn
        rw [hv] at hc
        have hne : ((k : Int) == (n : Int)) = false := by simp; omega
        have hff : ff xs < xs.length := by rw [HS.out, Hx.out]; exact hkn
        obtain ⟨f', rfl, hf4, hih⟩ := HF.out.resolve_left (by omega)
        have hcm := comps_more f' hff
        have h10 : 10 ^ f' ≤ 10 ^ 4 := Nat.pow_le_pow_right (by omega) hf4
        have HIH := Lib.hid hih; have HCM := Lib.hid hcm; have HFF := Lib.hid hff
        have H10 := Lib.hid h10
        clear hks hv hk hih hcm hff HF h10
        go_wp2_with fail
        go_loopw [4, 5, 6] (fun ov jv nv wr => ∃ (j gv m cv : Nat) (nz : Value), nv = nz ∧ k < j ∧ j ≤ n ∧ jv = .int .i64 j ∧ ov = .slice (some ⟨gv, 0, none⟩) m cv ∧ Hid ((compU f' xs j).length = m) ∧ Hid (OwnSS wr w.heap.size wr.heap.size (.slice (some ⟨gv, 0, none⟩) m cv) (compU f' xs j)) ∧ Hid (Below w.heap.size w wr)) (fun _ jv _ _ => n - (intOf jv).toNat)
        case atStart =>
          have e0 : compU f' xs (k + 1) = [] := compU_low f' xs _ (by rw [HS.out]; exact Nat.le_refl _)
          refine ⟨k + 1, w.heap.size, 0, 0, _, rfl, by omega, by omega, by go_num, rfl, by rw [Hid, e0]; rfl, ?_, (Below.refl _ _).alloc (Nat.le_refl _) _⟩
          rw [Hid, e0]; exact OwnSS.empty (Nat.le_refl _)
        case round =>
          obtain ⟨j, gv, m, cv, nz, rfl, hkj, hjn, rfl, rfl, hml, hos, hb⟩ := hrel
          have hbs := hb.out.size
          by_cases hlt : j < n
          · obtain ⟨_, e1, -, hcj, -⟩ := (HO.out.below hb.out).cellAt Hx.out hlt
            simp only [Option.some.injEq, Addr.mk.injEq, and_true] at e1
            subst e1
            by_cases hfree : gi xs j = -1
            · have hneg : decide (gi xs j < 0) = true := by rw [hfree]; rfl
              rw [hfree] at hcj
              go_wp2_with fail
              refine (l2Copy_any _ n c xs wr ((HO.out.below hb.out).rd Hx.out) hn1 (by omega)).mono ?_
              rintro e w1 ⟨v, rfl, o, b⟩
              obtain ⟨A1, c1, rfl, -, -⟩ := o.form' Hx.out
              obtain ⟨g1, rfl, hg1, hck, hfk⟩ := o.cellAt Hx.out hkn
              have hst := o.stored Hx.out k (j : Int)
              have hl2 : (xs.set k (j : Int)).length = n := by simpa using Hx.out
              obtain ⟨_, e1, -, hcj2, hfj2⟩ := hst.1.cellAt hl2 hlt
              simp only [Option.some.injEq, Addr.mk.injEq, and_true] at e1
              subst e1
              have hst2 := hst.1.stored hl2 j (k : Int)
              have hl3 : (gluedL xs k j).length = n := (gluedL_len _ _ _).trans Hx.out
              have HO2 : Hid (Own ((w1.setCell ⟨g1, k, none⟩ (.int .i64 j)).setCell ⟨g1, j, none⟩ (.int .i64 k)) wr.heap.size (.slice (some ⟨g1, 0, none⟩) n c1) (gluedL xs k j)) := hst2.1
              have hb2 : Below wr.heap.size wr ((w1.setCell ⟨g1, k, none⟩ (.int .i64 j)).setCell ⟨g1, j, none⟩ (.int .i64 k)) := (b.setCell (p := ⟨g1, k, none⟩) hg1 _).setCell (p := ⟨g1, j, none⟩) hg1 _
              obtain ⟨W2, hW2⟩ : ∃ W, (w1.setCell ⟨g1, k, none⟩ (.int .i64 j)).setCell ⟨g1, j, none⟩ (.int .i64 k) = W := ⟨_, rfl⟩
              rw [hW2] at HO2 hb2
              have HB2 := Lib.hid hb2; have HL3 := Lib.hid hl3
              have hpg3 : PG (gluedL xs k j) := HPG.out.glued (by rw [Hx.out]; exact hkn) (by rw [Hx.out]; exact hlt) (by omega) (HAT.out hkn) hfree
              have HPG3 := Lib.hid hpg3
              have HAA : Hid (AllAt f' (gluedL xs k j)) := by have := HIH.out j (by rw [HS.out]; exact hkj) (by rw [Hx.out]; exact hlt) hfree; rwa [HS.out] at this
              have HW2 := Lib.hid hW2
              have hkn' : (k : Int) < n := by omega
              have hjn' : (j : Int) < n := by omega
              clear b o hst hst2 hl2 hl3 hb2 hpg3 hW2
              go_wp2_with fail
              rw [HW2.out]
              refine (HAA.out W2 wr.heap.size _ c1 n HO2.out HB2.out.size HL3.out HPG3.out hn1 hn10).mono ?_
              rintro e w3 ⟨g3, m3, c3, rfl, hm3, os3, b3⟩
              obtain ⟨us, hul, huo, hur, hud⟩ := os3
              obtain ⟨vs, hvl, hvo, hvr, hvd⟩ := hos.out.below (HB2.out.trans (b3.mono HB2.out.size))
              have hs3 := b3.size
              have hs2 := HB2.out.size
              have hmm := hml.out
              have hbound1 := compU_len f' xs (by rw [Hx.out]; exact hn10) j
              have hbound2 := comps_len f' (gluedL xs k j) (by rw [HL3.out]; exact hn10)
              rw [hmm] at hbound1 hvl hvo; rw [hm3] at hbound2 hul huo
              have hmb : m ≤ 100000 := by have := H10.out; have : j * 10 ^ f' ≤ 10 * 10 ^ 4 := Nat.mul_le_mul (by omega) H10.out; omega
              have hmb3 : m3 ≤ 10000 := by have := H10.out; omega
              have HB3 := Lib.hid (hb.out.trans ((HB2.out.trans (b3.mono HB2.out.size)).mono hbs))
              have HUR := Lib.hid hur; have HUD := Lib.hid hud; have HVR := Lib.hid hvr; have HVD := Lib.hid hvd; have HUL := Lib.hid hul; have HVL := Lib.hid hvl; have HUO := Lib.hid huo; have HVO := Lib.hid hvo; have HM3 := Lib.hid hm3
              have HWB : Hid (w.heap.size ≤ w3.heap.size) := by rw [Hid]; omega
              have hwb := HWB.out
              clear hur hud hvr hvd hul hvl huo hvo b3 hm3 hbound1 hbound2
              have d1 := one_cells HUL.out HUR.out HM3.out
              have d2 := World.ownsRow.cells HUO.out rfl
              have d3 : us.length = m3 * 1 := by rw [HUL.out]; omega
              have d4 : m + m3 ≤ maxLen := by unfold maxLen; omega
              have d5 : (m + m3) * 24 ≤ 140737488355328 := by omega
              have D1 := Lib.hid d1; have D2 := Lib.hid d2; have D3 := Lib.hid d3; clear d1 d2 d3
              go_wp2_with (at_builtin; refine wpList_append_own _ rfl _ _ 24 rfl w.heap.size 35 i1 (.slice none 0 0) 1 24 Try.underlying24 hinf1 hy0 hy1 hy2 rfl (by decide) _ _ _ rfl HVO.out ⟨g3, 0, none⟩ m3 c3 us rfl D3.out D2.out D1.out d4 d5 hwb ?_; intro v1 w4 hown1 hgrow1 hnil; have HOA := Lib.hid hown1; have HNN := Lib.hid hnil; clear hnil; have HGR := Lib.hid hgrow1; clear hown1 hgrow1)
              go_roundw
              case rel =>
                obtain ⟨gq, cq, rfl⟩ := own_some HOA.out (fun e => by cases (HNN.out.1 e).1)
                have hyes := compU_yes (f := f') (p := xs) (k := j) (by rw [HS.out]; exact hkj) hfree
                rw [HS.out] at hyes
                have hs4 := HGR.out.size
                refine ⟨j + 1, gq, m + m3, cq, _, rfl, by omega, by omega, by go_num, rfl, by rw [Hid, hyes, List.length_append, hml.out, HM3.out], ?_, ?_⟩
                · rw [Hid, hyes]
                  exact OwnSS.concat (hi := wr.heap.size) (hi2 := w3.heap.size) (HVL.out.trans hml.out.symm) HVR.out HVD.out (by rw [hml.out]; exact HVO.out) (HUL.out.trans HM3.out.symm) HUR.out HUD.out hbs (by omega) hs4 (by rw [hml.out, HM3.out]; exact HOA.out) HGR.out
                · exact HB3.out.grown HGR.out hwb (fun k hk => (HVO.out.lt k hk).1)
              case measure => simp [intOf]; omega
            · have hneg : decide (gi xs j < 0) = false := by
                rcases HPG.out j (by rw [Hx.out]; exact hlt) with h | h
                · exact absurd h hfree
                · simp; omega
              have hst := compU_no (f := f') hfree
              have HST := Lib.hid hst
              clear hst
              go_wp2_with fail
              go_roundw
              case rel => exact ⟨j + 1, gv, m, cv, _, rfl, by omega, by omega, by go_num, rfl, by rw [Hid, HST.out]; exact hml.out, by rw [Hid, HST.out]; exact hos.out, hb⟩
              case measure => simp [intOf]; omega
          · obtain rfl : j = n := by omega
            have hend : comps (f' + 1) xs = compU f' xs j := by rw [HCM.out, Hx.out]
            have HEN := Lib.hid hend
            clear hend hlt
            go_wp2_with fail
            go_ret
            exact ⟨gv, m, cv, rfl, by rw [HEN.out]; exact hml.out, by rw [HEN.out]; exact hos.out.mono hlo, hb.out⟩
      · obtain rfl : k = n := by omega
        have hfull : ff xs = xs.length := by rw [HS.out, Hx.out]
        have hce := comps_full hfull f
        have HCE := Lib.hid hce
        clear hce hfull hkn
        go_wp2_with fail
        go_ret
        refine ⟨_, _, _, rfl, by rw [HCE.out]; rfl, by rw [HCE.out]; exact one_row HO.out hlo, (Below.refl _ _).alloc (Nat.le_refl _) _⟩

theorem allAt : ∀ (f : Nat), f ≤ 5 → ∀ (xs : List Int), PG xs → freeN xs ≤ 2 * f → AllAt f xs := by
  intro f
  induction f with
  | zero => intro _ xs _ h; exact l4All_step 0 xs (.inl (freeN_zero (by omega)))
  | succ f ih =>
    intro h5 xs hp h
    by_cases hf : ff xs = xs.length
    · exact l4All_step _ xs (.inl hf)
    · have hlt : ff xs < xs.length := by have := ff_le xs; omega
      refine l4All_step _ xs (.inr ⟨f, rfl, by omega, fun k h1 h2 h3 => ?_⟩)
      have := freeN_glued hlt h2 (by omega) (ff_at hlt) h3
      exact ih (by omega) _ (hp.glued hlt h2 (by omega) (ff_at hlt) h3) (by omega)

end Go.Proofs.Ytolbcdhkjhbepaa
