/-
  ChoiceCounts, ChoiceTree, ChoiceQuasi: the model's and the program's.
-/
import Derived.Test.YtcenffndclpjoaaRibN
namespace Go.Proofs.Ytcenffndclpjoaa
open Go.RowKit

theorem bL_inj : ∀ s : Nat, s < 64 → ∀ s' : Nat, s' < 64 → bL s = bL s' → s = s' := by decide +kernel
noncomputable def sOf (xs : List Int) : Nat := leastOf fun s => s < 64 ∧ bL s = xs
theorem sOf_eq {xs : List Int} {s : Nat} (hs : s < 64) (h : bL s = xs) : sOf xs = s := by
  obtain ⟨⟨h1, h2⟩, _⟩ := leastOf_spec (p := fun s => s < 64 ∧ bL s = xs) ⟨s, hs, h⟩
  exact bL_inj _ h1 _ hs (h2.trans h.symm)
theorem asc_bits {m : Nat} {xs : List Int} (h : Asc m xs) (hm : m ≤ 6) : ∃ s, s < 2 ^ m ∧ bL s = xs := by
  have key : ∀ k, k ≤ xs.length → ∃ s L, Bits xs k s L ∧ L ≤ m := by
    intro k
    induction k with
    | zero => intro _; exact ⟨0, 0, Bits.start xs, Nat.zero_le _⟩
    | succ k ih =>
      intro hk
      obtain ⟨s, L, hb, hL⟩ := ih (by omega)
      have ha := h k (by omega)
      by_cases hin : 0 ≤ gi xs k ∧ gi xs k < (m : Int) ∧ s < 2 ^ (gi xs k).toNat
      · obtain ⟨e, he⟩ := Int.eq_ofNat_of_zero_le hin.1
        have := hb.step (m := m) (e := e) (by omega) he (by have := hin.2.1; omega) hm (by have := hin.2.2; rw [he] at this; simpa using this)
        exact ⟨_, _, this.1, by have := hin.2.1; omega⟩
      · have := hb.stop hin; rw [ha] at this; exact absurd this (by decide)
  obtain ⟨s, L, hb, hL⟩ := key _ (Nat.le_refl _)
  exact ⟨s, hb.iff.2 hL, hb.done⟩
theorem chV_bits {t f xs : List Int} (h : chV t f xs = true) : IsMap t f ∧ f.length / 2 ≤ 6 ∧ ∃ s, s < 2 ^ (f.length / 2) ∧ bL s = xs ∧ s < 64 ∧ sOf xs = s := by
  obtain ⟨h6, hm⟩ := chV_few h
  unfold chV at h
  rw [Bool.and_eq_true] at h
  obtain ⟨s, h1, h2⟩ := asc_bits (m := f.length / 2) (xs := xs) (by simpa [ascB] using h.1) h6
  have h64 := lt_of_pow h1 h6
  exact ⟨hm, h6, s, h1, h2, h64, sOf_eq h64 h2⟩
theorem subL_five (t f : List Int) (s : Nat) : ∃ x0 x1 x2 x3 x4 : Int, subL t f s = [x0, x1, x2, x3, x4] := ⟨_, _, _, _, _, rfl⟩

theorem own_lit5 (w : World) {base : Nat} (x0 x1 x2 x3 x4 : Int) (h : base ≤ w.heap.size) : Own (w.alloc (.cells #[.int .i64 x0, .int .i64 x1, .int .i64 x2, .int .i64 x3, .int .i64 x4] 3)) base (.slice (some ⟨w.heap.size, 0, none⟩) 5 5) [x0, x1, x2, x3, x4] :=
  World.ownsRow_lit w #[.int .i64 x0, .int .i64 x1, .int .i64 x2, .int .i64 x3, .int .i64 x4] 5 h (by unfold maxLen; omega) rfl

set_option maxRecDepth 20000 in
set_option maxHeartbeats 1600000 in
theorem l7Counts_any (A A' : Option Addr) (n c c' s : Nat) (t f : List Int) (w : World) (h : Rd w A n t) (h' : Rd w A' n f) (hm : IsMap t f) (B : Option Addr) (d m : Nat) (xs : List Int) (kx : Rd w B m xs) (hs : s < 2 ^ (f.length / 2)) (hxs : bL s = xs) :
    Calls Try.prog 33 #[.agg #[.slice A n c, .slice A' n c'], .slice B m d] w fun e w' => ∃ v, e = .returned v ∧ Own w' w.heap.size v (subL t f s) ∧ Below w.heap.size w w' := by
  obtain ⟨W0, hW0, hx, hb, -⟩ := Box.local_ w 25 (.slice A n c) (.slice A' n c')
  have hn12 : n ≤ 12 := by rw [← h'.1]; exact hm.flip.2.1
  have hs64 : s < 64 := lt_of_pow hs (by rw [h'.1]; omega)
  have hml : (bL s).length = m := by rw [hxs, kx.1]
  have hm6 : m ≤ 6 := by rw [← hml]; exact bL_few s hs64
  obtain ⟨p, hpn⟩ : ∃ p, ptsN t f s = p := ⟨_, rfl⟩
  obtain ⟨sd, hsd⟩ : ∃ sd, sidN t f s = sd := ⟨_, rfl⟩
  obtain ⟨v, hv⟩ : ∃ v, cntV t = v := ⟨_, rfl⟩
  have hp12 : p ≤ 12 := by rw [← hpn]; have := fixN_le (orbL t (flipS f s)) t.length; rw [h.1] at this; unfold ptsN; rw [h.1]; omega
  have hsd12 : sd ≤ 12 := by rw [← hsd]; have := cyclesL_len (p := sidL t f s); have := sidL_len t f s; have := hm.flip.2.1; unfold sidN; omega
  have hv12 : v ≤ 12 := by rw [← hv]; have := cyclesL_len (p := t); have := hm.turn.2.1; unfold cntV; omega
  have HSUB : Hid (subL t f s = subI p sd v m) := by rw [Hid, subL, hpn, hsd, hv, hml]
  have c0 := hx.cell0
  have c1 := hx.cell1
  have HX := Lib.hid hx; have HB := Lib.hid hb; have H := Lib.hid h; have H' := Lib.hid h'; have HM := Lib.hid hm; have KX := Lib.hid kx; have HS := Lib.hid hs; have HXS := Lib.hid hxs; have HP := Lib.hid hpn; have HSD := Lib.hid hsd; have HV := Lib.hid hv
  clear hx hb h h' hm kx hs hxs hpn hsd hv hml
  go_enter Try.func33, Try.ntmps33
  go_wp2_with fail
  refine (l7Parts_any A A' n c c' s p t f W0 (H.out.below HB.out) (H'.out.below HB.out) HM.out B d m xs (KX.out.below HB.out) hs64 HXS.out HP.out).mono ?_
  rintro e w1 ⟨rfl, b⟩
  have hx1 := HX.out.below b
  have d0 := hx1.cell0
  have d1 := hx1.cell1
  have HB1 := Lib.hid (HB.out.trans (b.mono HB.out.size)); have HX1 := Lib.hid hx1
  clear b hx1 c0 c1
  go_wp2_with fail
  refine (l7Sides_any A A' n c c' s sd t f w1 (H.out.below HB1.out) (H'.out.below HB1.out) HM.out B d m xs (KX.out.below HB1.out) HS.out HXS.out HSD.out).mono ?_
  rintro e w2 ⟨rfl, b⟩
  have hx2 := HX1.out.below b
  have c0 := hx2.cell0
  have HB2 := Lib.hid (HB1.out.trans (b.mono HB1.out.size))
  clear b hx2 d0 d1
  go_wp2_with fail
  refine (l1Cycles_any A n c t w2 (H.out.below HB2.out) HM.out.turn).mono ?_
  rintro e w3 ⟨u, rfl, o, b⟩
  obtain ⟨A5, c5, rfl⟩ := o.form_len (show (cyclesL t).length = v from HV.out)
  have HB3 := Lib.hid (HB2.out.trans (b.mono HB2.out.size))
  clear o b c0
  have HOW := Lib.hid (own_lit5 w3 (p : Int) (sd : Int) ((v : Int) - p) ((m : Int) - ((v : Int) - p)) ((2 * (p : Int) - v + m - sd).tdiv 2) HB3.out.size)
  go_wp2_with fail
  go_ret
  exact ⟨_, rfl, by rw [HSUB.out]; exact HOW.out, HB3.out.alloc HB3.out.size _⟩

noncomputable def ccR (t f xs : List Int) : Bool × List Int := if chV t f xs = true then (true, subL t f (sOf xs)) else (false, [])
theorem ccR_len {t f xs ys : List Int} {ok : Bool} (h : ccR t f xs = (ok, ys)) : ys.length ≤ 12 := by
  unfold ccR at h
  split at h <;> (injection h with _ h; rw [← h]; simp [subL, subI])

set_option maxHeartbeats 1600000 in
theorem spec_ccR (w : World) (A A' : Option Addr) (n n' c c' : Nat) (t f : List Int) (h : Rd w A n t) (h' : Rd w A' n' f) (hn : n ≤ 1048576) (hn' : n' ≤ 1048576) (B : Option Addr) (d m : Nat) (xs : List Int) (k : Rd w B m xs) (hm : m ≤ 1048576) {ok : Bool} {ys : List Int} (hR : ccR t f xs = (ok, ys)) :
    Calls Try.prog 9 #[.agg #[.slice A n c, .slice A' n' c'], .slice B m d] w fun e w' => ∃ v, e = .returned (.tuple #[v, .bool ok]) ∧ Own w' w.heap.size v ys ∧ Below w.heap.size w w' := by
  obtain ⟨W0, hW0, hx, hb, -⟩ := Box.local_ w 25 (.slice A n c) (.slice A' n' c')
  have c0 := hx.cell0
  have c1 := hx.cell1
  have HX := Lib.hid hx; have HB := Lib.hid hb; have H := Lib.hid h; have H' := Lib.hid h'; have K := Lib.hid k; have HR := Lib.hid hR; clear hx hb h h' hR k
  by_cases hv : chV t f xs = true
  · obtain ⟨rfl, rfl⟩ : ok = true ∧ ys = subL t f (sOf xs) := by have := HR.out; rw [ccR, if_pos hv] at this; simpa [eq_comm] using this
    obtain ⟨hmap, h6, s, h1, h2, h3, h4⟩ := chV_bits hv
    obtain rfl : n = n' := hmap.same H.out.1 H'.out.1
    have HV := Lib.hid hv; have HM := Lib.hid hmap; have H1 := Lib.hid h1; have H2 := Lib.hid h2; have H4 := Lib.hid h4
    clear hv hmap h1 h2 h4
    go_enter Try.func9, Try.ntmps9
    go_wp2_with fail
    refine (spec_chV W0 A A' n n c c' t f (H.out.below HB.out) (H'.out.below HB.out) hn hn' B d m xs (K.out.below HB.out) hm HV.out).mono ?_
    rintro e w1 ⟨rfl, b⟩
    have hx := HX.out.below b
    have d0 := hx.cell0
    have d1 := hx.cell1
    have HB1 := Lib.hid (HB.out.trans (b.mono HB.out.size)); clear b hx c0 c1
    go_wp2_with fail
    refine (l7Counts_any A A' n c c' s t f w1 (H.out.below HB1.out) (H'.out.below HB1.out) HM.out B d m xs (K.out.below HB1.out) H1.out H2.out).mono ?_
    rintro e w2 ⟨v, rfl, o, b⟩
    have HO := Lib.hid (o.mono HB1.out.size); have HB2 := Lib.hid (HB1.out.trans (b.mono HB1.out.size)); clear o b
    go_wp2_with fail
    go_ret2
    exact ⟨v, rfl, by rw [H4.out]; exact HO.out, HB2.out⟩
  · have hv' : chV t f xs = false := by simpa using hv
    obtain ⟨rfl, rfl⟩ : ok = false ∧ ys = [] := by have := HR.out; rw [ccR, if_neg hv] at this; simpa [eq_comm] using this
    have HV := Lib.hid hv'; clear HR hv hv'
    go_enter Try.func9, Try.ntmps9
    go_wp2_with fail
    refine (spec_chV W0 A A' n n' c c' t f (H.out.below HB.out) (H'.out.below HB.out) hn hn' B d m xs (K.out.below HB.out) hm HV.out).mono ?_
    rintro e w1 ⟨rfl, b⟩
    have HB1 := Lib.hid (HB.out.trans (b.mono HB.out.size)); clear b
    go_wp2_with fail
    go_ret2
    exact ⟨_, rfl, Own.empty HB1.out.size, HB1.out.alloc HB1.out.size _⟩

theorem subgraph_lit (b : Nat) (A A' : Option Addr) (n c c' s : Nat) (t f : List Int) (w : World) (hb : Box2 w b A n c A' n c') (h : Rd w A n t) (h' : Rd w A' n f) (hm : IsMap t f) (hs : s < 64) {x0 x1 x2 x3 x4 : Int} (hx : subL t f s = [x0, x1, x2, x3, x4]) :
    Calls Try.prog 31 #[.pointer (some ⟨b, 0, none⟩), .int .u64 s] w fun e w' => e = .returned (.agg #[.int .i64 x0, .int .i64 x1, .int .i64 x2, .int .i64 x3, .int .i64 x4]) ∧ Below w.heap.size w w' := by
  refine (subgraph_any b A A' n c c' s _ _ _ _ t f w hb h h' hm hs rfl rfl rfl rfl).mono ?_
  rintro e w1 ⟨rfl, b⟩
  refine ⟨?_, b⟩
  have : aggOf (subL t f s) = aggOf [x0, x1, x2, x3, x4] := by rw [hx]
  exact congrArg Ending.returned this

set_option maxHeartbeats 1600000 in
theorem impl_ccR (w : World) (A A' : Option Addr) (n n' c c' : Nat) (t f : List Int) (h : Rd w A n t) (h' : Rd w A' n' f) (hn : n ≤ 1048576) (hn' : n' ≤ 1048576) (B : Option Addr) (d m : Nat) (xs : List Int) (k : Rd w B m xs) (hm : m ≤ 1048576) {ok : Bool} {ys : List Int} (hR : ccR t f xs = (ok, ys)) :
    Calls Try.prog 8 #[.agg #[.slice A n c, .slice A' n' c'], .slice B m d] w fun e w' => ∃ v, e = .returned (.tuple #[v, .bool ok]) ∧ Own w' w.heap.size v ys ∧ Below w.heap.size w w' := by
  obtain ⟨W0, hW0, hx, hb, -⟩ := Box.local_ w 25 (.slice A n c) (.slice A' n' c')
  have HX := Lib.hid hx; have HB := Lib.hid hb; have H := Lib.hid h; have H' := Lib.hid h'; have K := Lib.hid k; have HR := Lib.hid hR; clear hx hb h h' hR k
  by_cases hv : chV t f xs = true
  · obtain ⟨rfl, rfl⟩ : ok = true ∧ ys = subL t f (sOf xs) := by have := HR.out; rw [ccR, if_pos hv] at this; simpa [eq_comm] using this
    obtain ⟨hmap, h6, s0, h1, h2, h3, h4⟩ := chV_bits hv
    obtain rfl : n = n' := hmap.same H.out.1 H'.out.1
    obtain ⟨x0, x1, x2, x3, x4, h5⟩ := subL_five t f s0
    have HV := Lib.hid hv; have HM := Lib.hid hmap; have H2 := Lib.hid h2; have H4 := Lib.hid h4; have H5 := Lib.hid h5
    clear hv hmap h1 h2 h4 h5
    go_enter Try.func8, Try.ntmps8
    go_wp2_with fail
    refine (chosen_any w.heap.size A A' n n c c' t f W0 HX.out (H.out.below HB.out) (H'.out.below HB.out) hn hn' B d m xs (K.out.below HB.out) hm HV.out).mono ?_
    rintro e w1 ⟨s, rfl, hs, b⟩
    obtain ⟨s1, s2⟩ := hs.out rfl
    obtain rfl : s = s0 := bL_inj _ (lt_of_pow s1 h6) _ h3 (s2.trans H2.out.symm)
    have HX1 := Lib.hid (HX.out.below b); have HB1 := Lib.hid (HB.out.trans (b.mono HB.out.size)); clear b hs s1 s2
    go_wp2_with fail
    refine (subgraph_lit w.heap.size A A' n c c' s t f w1 HX1.out (H.out.below HB1.out) (H'.out.below HB1.out) HM.out h3 H5.out).mono ?_
    rintro e w2 ⟨rfl, b⟩
    have HB2 := Lib.hid (HB1.out.trans (b.mono HB1.out.size)); clear b
    go_wp2_with fail
    go_ret2
    have hb3 : Below w2.heap.size w2 (w2.alloc (.cells #[.int .i64 x0, .int .i64 x1, .int .i64 x2, .int .i64 x3, .int .i64 x4] 51)) := (Below.refl _ _).alloc (Nat.le_refl _) _
    have hbw := HB2.out.trans (hb3.mono HB2.out.size)
    have ho := own_lit5 (w2.alloc (.cells #[.int .i64 x0, .int .i64 x1, .int .i64 x2, .int .i64 x3, .int .i64 x4] 51)) x0 x1 x2 x3 x4 hbw.size
    rw [World.size_alloc] at ho
    exact ⟨_, rfl, by rw [H4.out, H5.out]; exact ho, hbw.alloc hbw.size _⟩
  · have hv' : chV t f xs = false := by simpa using hv
    obtain ⟨rfl, rfl⟩ : ok = false ∧ ys = [] := by have := HR.out; rw [ccR, if_neg hv] at this; simpa [eq_comm] using this
    have HV := Lib.hid hv'; clear HR hv hv'
    go_enter Try.func8, Try.ntmps8
    go_wp2_with fail
    refine (chosen_any w.heap.size A A' n n' c c' t f W0 HX.out (H.out.below HB.out) (H'.out.below HB.out) hn hn' B d m xs (K.out.below HB.out) hm HV.out).mono ?_
    rintro e w1 ⟨s, rfl, -, b⟩
    have HB1 := Lib.hid (HB.out.trans (b.mono HB.out.size)); clear b
    go_wp2_with fail
    go_ret2
    exact ⟨_, rfl, Own.nil_ _ _, HB1.out⟩

/-- One part and no nullity; one part and one side. -/
def treeS (xs : List Int) : Bool := gi xs 0 == 1 && gi xs 3 == 0
def quasiS (xs : List Int) : Bool := gi xs 0 == 1 && gi xs 1 == 1

theorem isTree_any (x0 x1 x2 x3 x4 : Int) (w : World) {r : Bool} (hr : treeS [x0, x1, x2, x3, x4] = r) :
    Calls Try.prog 36 #[.agg #[.int .i64 x0, .int .i64 x1, .int .i64 x2, .int .i64 x3, .int .i64 x4]] w fun e w' => e = .returned (.bool r) ∧ Below w.heap.size w w' := by
  have hr' : (x0 == 1 && x3 == 0) = r := hr
  have HBW : Hid (Below w.heap.size w (w.alloc (.cells #[.int .i64 x0, .int .i64 x1, .int .i64 x2, .int .i64 x3, .int .i64 x4] 51))) := (Below.refl _ _).alloc (Nat.le_refl _) _
  obtain ⟨a, ha⟩ : ∃ a, (x0 == 1) = a := ⟨_, rfl⟩
  obtain ⟨b, hb⟩ : ∃ b, (x3 == 0) = b := ⟨_, rfl⟩
  rw [ha, hb] at hr'
  clear hr
  cases a <;> cases b
  all_goals
    subst hr'
    go_enter Try.func36, Try.ntmps36
    go_wp2_with fail
    go_ret
    exact ⟨rfl, HBW.out⟩

noncomputable def treeCB (t f xs : List Int) : Bool := chV t f xs && treeS (subL t f (sOf xs))

set_option maxHeartbeats 1600000 in
theorem spec_treeCB (w : World) (A A' : Option Addr) (n n' c c' : Nat) (t f : List Int) (h : Rd w A n t) (h' : Rd w A' n' f) (hn : n ≤ 1048576) (hn' : n' ≤ 1048576) (B : Option Addr) (d m : Nat) (xs : List Int) (k : Rd w B m xs) (hm : m ≤ 1048576) {r : Bool} (hR : treeCB t f xs = r) :
    Calls Try.prog 16 #[.agg #[.slice A n c, .slice A' n' c'], .slice B m d] w fun e w' => e = .returned (.bool r) ∧ Below w.heap.size w w' := by
  obtain ⟨W0, hW0, hx, hb, -⟩ := Box.local_ w 25 (.slice A n c) (.slice A' n' c')
  have c0 := hx.cell0
  have c1 := hx.cell1
  obtain ⟨ok, ys, hC⟩ : ∃ ok ys, ccR t f xs = (ok, ys) := ⟨_, _, rfl⟩
  have HB := Lib.hid hb; have H := Lib.hid h; have H' := Lib.hid h'; have K := Lib.hid k; have HC := Lib.hid hC; clear hx hb h h' k hC
  by_cases hv : chV t f xs = true
  · obtain ⟨rfl, rfl⟩ : ok = true ∧ ys = subL t f (sOf xs) := by have := HC.out; rw [ccR, if_pos hv] at this; simpa [eq_comm] using this
    obtain ⟨x0, x1, x2, x3, x4, h5⟩ := subL_five t f (sOf xs)
    have hr' : (x0 == 1 && x3 == 0) = r := by rw [← hR, treeCB, hv, h5]; rfl
    obtain ⟨a, ha⟩ : ∃ a, (x0 == 1) = a := ⟨_, rfl⟩
    obtain ⟨b, hb⟩ : ∃ b, (x3 == 0) = b := ⟨_, rfl⟩
    rw [ha, hb] at hr'
    rw [h5] at HC
    clear hv h5 hR
    cases a <;> cases b
    all_goals
      subst hr'
      go_enter Try.func16, Try.ntmps16
      go_wp2_with fail
      refine (spec_ccR W0 A A' n n' c c' t f (H.out.below HB.out) (H'.out.below HB.out) hn hn' B d m xs (K.out.below HB.out) hm HC.out).mono ?_
      rintro e w1 ⟨v, rfl, o, b⟩
      obtain ⟨A1, c1', rfl, hr, -⟩ := o.form' (n := 5) rfl
      obtain ⟨g, rfl, -, f0, -⟩ := o.cellAt (n := 5) rfl (k := 0) (by omega)
      obtain ⟨g', e', -, f1, -⟩ := o.cellAt (n := 5) rfl (k := 3) (by omega)
      simp only [Option.some.injEq, Addr.mk.injEq, and_true] at e'
      subst e'
      have e0 : w1.cell? ⟨g, 0, none⟩ = some (.int .i64 x0) := f0
      have e1 : w1.cell? ⟨g, 3, none⟩ = some (.int .i64 x3) := f1
      clear f0 f1
      have HB1 := Lib.hid (HB.out.trans (b.mono HB.out.size)); clear b hr o c0 c1
      go_wp2_with fail
      go_ret
      exact ⟨rfl, HB1.out⟩
  · obtain ⟨rfl, rfl⟩ : ok = false ∧ ys = [] := by have := HC.out; rw [ccR, if_neg hv] at this; simpa [eq_comm] using this
    obtain rfl : r = false := by rw [← hR, treeCB, show chV t f xs = false by simpa using hv]; rfl
    clear hv hR
    go_enter Try.func16, Try.ntmps16
    go_wp2_with fail
    refine (spec_ccR W0 A A' n n' c c' t f (H.out.below HB.out) (H'.out.below HB.out) hn hn' B d m xs (K.out.below HB.out) hm HC.out).mono ?_
    rintro e w1 ⟨v, rfl, o, b⟩
    have HB1 := Lib.hid (HB.out.trans (b.mono HB.out.size)); clear b o c0 c1
    go_wp2_with fail
    go_ret
    exact ⟨rfl, HB1.out⟩

set_option maxHeartbeats 1600000 in
theorem impl_treeCB (w : World) (A A' : Option Addr) (n n' c c' : Nat) (t f : List Int) (h : Rd w A n t) (h' : Rd w A' n' f) (hn : n ≤ 1048576) (hn' : n' ≤ 1048576) (B : Option Addr) (d m : Nat) (xs : List Int) (k : Rd w B m xs) (hm : m ≤ 1048576) {r : Bool} (hR : treeCB t f xs = r) :
    Calls Try.prog 15 #[.agg #[.slice A n c, .slice A' n' c'], .slice B m d] w fun e w' => e = .returned (.bool r) ∧ Below w.heap.size w w' := by
  obtain ⟨W0, hW0, hx, hb, -⟩ := Box.local_ w 25 (.slice A n c) (.slice A' n' c')
  have HX := Lib.hid hx; have HB := Lib.hid hb; have H := Lib.hid h; have H' := Lib.hid h'; have K := Lib.hid k; have HR := Lib.hid hR; clear hx hb h h' hR k
  by_cases hv : chV t f xs = true
  · obtain ⟨hmap, h6, s0, h1, h2, h3, h4⟩ := chV_bits hv
    obtain rfl : n = n' := hmap.same H.out.1 H'.out.1
    obtain ⟨x0, x1, x2, x3, x4, h5⟩ := subL_five t f s0
    have HT : Hid (treeS [x0, x1, x2, x3, x4] = r) := by rw [Hid, ← h5, ← h4]; have := HR.out; rwa [treeCB, hv, Bool.true_and] at this
    have HV := Lib.hid hv; have HM := Lib.hid hmap; have H2 := Lib.hid h2; have H5 := Lib.hid h5
    clear hv hmap h1 h2 h4 h5
    go_enter Try.func15, Try.ntmps15
    go_wp2_with fail
    refine (chosen_any w.heap.size A A' n n c c' t f W0 HX.out (H.out.below HB.out) (H'.out.below HB.out) hn hn' B d m xs (K.out.below HB.out) hm HV.out).mono ?_
    rintro e w1 ⟨s, rfl, hs, b⟩
    obtain ⟨s1, s2⟩ := hs.out rfl
    obtain rfl : s = s0 := bL_inj _ (lt_of_pow s1 h6) _ h3 (s2.trans H2.out.symm)
    have HX1 := Lib.hid (HX.out.below b); have HB1 := Lib.hid (HB.out.trans (b.mono HB.out.size)); clear b hs s1 s2
    go_wp2_with fail
    refine (subgraph_lit w.heap.size A A' n c c' s t f w1 HX1.out (H.out.below HB1.out) (H'.out.below HB1.out) HM.out h3 H5.out).mono ?_
    rintro e w2 ⟨rfl, b⟩
    have HB2 := Lib.hid (HB1.out.trans (b.mono HB1.out.size)); clear b
    go_wp2_with fail
    refine (isTree_any x0 x1 x2 x3 x4 w2 HT.out).mono ?_
    rintro e w3 ⟨rfl, b⟩
    have HB3 := Lib.hid (HB2.out.trans (b.mono HB2.out.size)); clear b
    go_wp2_with fail
    go_ret
    exact ⟨rfl, HB3.out⟩
  · have hv' : chV t f xs = false := by simpa using hv
    obtain rfl : r = false := by rw [← HR.out, treeCB, hv']; rfl
    have HV := Lib.hid hv'; clear HR hv hv'
    go_enter Try.func15, Try.ntmps15
    go_wp2_with fail
    refine (chosen_any w.heap.size A A' n n' c c' t f W0 HX.out (H.out.below HB.out) (H'.out.below HB.out) hn hn' B d m xs (K.out.below HB.out) hm HV.out).mono ?_
    rintro e w1 ⟨s, rfl, -, b⟩
    have HB1 := Lib.hid (HB.out.trans (b.mono HB.out.size)); clear b
    go_wp2_with fail
    go_ret
    exact ⟨rfl, HB1.out⟩

theorem isQuasi_any (x0 x1 x2 x3 x4 : Int) (w : World) {r : Bool} (hr : quasiS [x0, x1, x2, x3, x4] = r) :
    Calls Try.prog 37 #[.agg #[.int .i64 x0, .int .i64 x1, .int .i64 x2, .int .i64 x3, .int .i64 x4]] w fun e w' => e = .returned (.bool r) ∧ Below w.heap.size w w' := by
  have hr' : (x0 == 1 && x1 == 1) = r := hr
  have HBW : Hid (Below w.heap.size w (w.alloc (.cells #[.int .i64 x0, .int .i64 x1, .int .i64 x2, .int .i64 x3, .int .i64 x4] 51))) := (Below.refl _ _).alloc (Nat.le_refl _) _
  obtain ⟨a, ha⟩ : ∃ a, (x0 == 1) = a := ⟨_, rfl⟩
  obtain ⟨b, hb⟩ : ∃ b, (x1 == 1) = b := ⟨_, rfl⟩
  rw [ha, hb] at hr'
  clear hr
  cases a <;> cases b
  all_goals
    subst hr'
    go_enter Try.func37, Try.ntmps37
    go_wp2_with fail
    go_ret
    exact ⟨rfl, HBW.out⟩

noncomputable def quasiCB (t f xs : List Int) : Bool := chV t f xs && quasiS (subL t f (sOf xs))

set_option maxHeartbeats 1600000 in
theorem spec_quasiCB (w : World) (A A' : Option Addr) (n n' c c' : Nat) (t f : List Int) (h : Rd w A n t) (h' : Rd w A' n' f) (hn : n ≤ 1048576) (hn' : n' ≤ 1048576) (B : Option Addr) (d m : Nat) (xs : List Int) (k : Rd w B m xs) (hm : m ≤ 1048576) {r : Bool} (hR : quasiCB t f xs = r) :
    Calls Try.prog 42 #[.agg #[.slice A n c, .slice A' n' c'], .slice B m d] w fun e w' => e = .returned (.bool r) ∧ Below w.heap.size w w' := by
  obtain ⟨W0, hW0, hx, hb, -⟩ := Box.local_ w 25 (.slice A n c) (.slice A' n' c')
  have c0 := hx.cell0
  have c1 := hx.cell1
  obtain ⟨ok, ys, hC⟩ : ∃ ok ys, ccR t f xs = (ok, ys) := ⟨_, _, rfl⟩
  have HB := Lib.hid hb; have H := Lib.hid h; have H' := Lib.hid h'; have K := Lib.hid k; have HC := Lib.hid hC; clear hx hb h h' k hC
  by_cases hv : chV t f xs = true
  · obtain ⟨rfl, rfl⟩ : ok = true ∧ ys = subL t f (sOf xs) := by have := HC.out; rw [ccR, if_pos hv] at this; simpa [eq_comm] using this
    obtain ⟨x0, x1, x2, x3, x4, h5⟩ := subL_five t f (sOf xs)
    have hr' : (x0 == 1 && x1 == 1) = r := by rw [← hR, quasiCB, hv, h5]; rfl
    obtain ⟨a, ha⟩ : ∃ a, (x0 == 1) = a := ⟨_, rfl⟩
    obtain ⟨b, hb⟩ : ∃ b, (x1 == 1) = b := ⟨_, rfl⟩
    rw [ha, hb] at hr'
    rw [h5] at HC
    clear hv h5 hR
    cases a <;> cases b
    all_goals
      subst hr'
      go_enter Try.func42, Try.ntmps42
      go_wp2_with fail
      refine (spec_ccR W0 A A' n n' c c' t f (H.out.below HB.out) (H'.out.below HB.out) hn hn' B d m xs (K.out.below HB.out) hm HC.out).mono ?_
      rintro e w1 ⟨v, rfl, o, b⟩
      obtain ⟨A1, c1', rfl, hr, -⟩ := o.form' (n := 5) rfl
      obtain ⟨g, rfl, -, f0, -⟩ := o.cellAt (n := 5) rfl (k := 0) (by omega)
      obtain ⟨g', e', -, f1, -⟩ := o.cellAt (n := 5) rfl (k := 1) (by omega)
      simp only [Option.some.injEq, Addr.mk.injEq, and_true] at e'
      subst e'
      have e0 : w1.cell? ⟨g, 0, none⟩ = some (.int .i64 x0) := f0
      have e1 : w1.cell? ⟨g, 1, none⟩ = some (.int .i64 x1) := f1
      clear f0 f1
      have HB1 := Lib.hid (HB.out.trans (b.mono HB.out.size)); clear b hr o c0 c1
      go_wp2_with fail
      go_ret
      exact ⟨rfl, HB1.out⟩
  · obtain ⟨rfl, rfl⟩ : ok = false ∧ ys = [] := by have := HC.out; rw [ccR, if_neg hv] at this; simpa [eq_comm] using this
    obtain rfl : r = false := by rw [← hR, quasiCB, show chV t f xs = false by simpa using hv]; rfl
    clear hv hR
    go_enter Try.func42, Try.ntmps42
    go_wp2_with fail
    refine (spec_ccR W0 A A' n n' c c' t f (H.out.below HB.out) (H'.out.below HB.out) hn hn' B d m xs (K.out.below HB.out) hm HC.out).mono ?_
    rintro e w1 ⟨v, rfl, o, b⟩
    have HB1 := Lib.hid (HB.out.trans (b.mono HB.out.size)); clear b o c0 c1
    go_wp2_with fail
    go_ret
    exact ⟨rfl, HB1.out⟩

set_option maxHeartbeats 1600000 in
theorem impl_quasiCB (w : World) (A A' : Option Addr) (n n' c c' : Nat) (t f : List Int) (h : Rd w A n t) (h' : Rd w A' n' f) (hn : n ≤ 1048576) (hn' : n' ≤ 1048576) (B : Option Addr) (d m : Nat) (xs : List Int) (k : Rd w B m xs) (hm : m ≤ 1048576) {r : Bool} (hR : quasiCB t f xs = r) :
    Calls Try.prog 17 #[.agg #[.slice A n c, .slice A' n' c'], .slice B m d] w fun e w' => e = .returned (.bool r) ∧ Below w.heap.size w w' := by
  obtain ⟨W0, hW0, hx, hb, -⟩ := Box.local_ w 25 (.slice A n c) (.slice A' n' c')
  have HX := Lib.hid hx; have HB := Lib.hid hb; have H := Lib.hid h; have H' := Lib.hid h'; have K := Lib.hid k; have HR := Lib.hid hR; clear hx hb h h' hR k
  by_cases hv : chV t f xs = true
  · obtain ⟨hmap, h6, s0, h1, h2, h3, h4⟩ := chV_bits hv
    obtain rfl : n = n' := hmap.same H.out.1 H'.out.1
    obtain ⟨x0, x1, x2, x3, x4, h5⟩ := subL_five t f s0
    have HT : Hid (quasiS [x0, x1, x2, x3, x4] = r) := by rw [Hid, ← h5, ← h4]; have := HR.out; rwa [quasiCB, hv, Bool.true_and] at this
    have HV := Lib.hid hv; have HM := Lib.hid hmap; have H2 := Lib.hid h2; have H5 := Lib.hid h5
    clear hv hmap h1 h2 h4 h5
    go_enter Try.func17, Try.ntmps17
    go_wp2_with fail
    refine (chosen_any w.heap.size A A' n n c c' t f W0 HX.out (H.out.below HB.out) (H'.out.below HB.out) hn hn' B d m xs (K.out.below HB.out) hm HV.out).mono ?_
    rintro e w1 ⟨s, rfl, hs, b⟩
    obtain ⟨s1, s2⟩ := hs.out rfl
    obtain rfl : s = s0 := bL_inj _ (lt_of_pow s1 h6) _ h3 (s2.trans H2.out.symm)
    have HX1 := Lib.hid (HX.out.below b); have HB1 := Lib.hid (HB.out.trans (b.mono HB.out.size)); clear b hs s1 s2
    go_wp2_with fail
    refine (subgraph_lit w.heap.size A A' n c c' s t f w1 HX1.out (H.out.below HB1.out) (H'.out.below HB1.out) HM.out h3 H5.out).mono ?_
    rintro e w2 ⟨rfl, b⟩
    have HB2 := Lib.hid (HB1.out.trans (b.mono HB1.out.size)); clear b
    go_wp2_with fail
    refine (isQuasi_any x0 x1 x2 x3 x4 w2 HT.out).mono ?_
    rintro e w3 ⟨rfl, b⟩
    have HB3 := Lib.hid (HB2.out.trans (b.mono HB2.out.size)); clear b
    go_wp2_with fail
    go_ret
    exact ⟨rfl, HB3.out⟩
  · have hv' : chV t f xs = false := by simpa using hv
    obtain rfl : r = false := by rw [← HR.out, quasiCB, hv']; rfl
    have HV := Lib.hid hv'; clear HR hv hv'
    go_enter Try.func17, Try.ntmps17
    go_wp2_with fail
    refine (chosen_any w.heap.size A A' n n' c c' t f W0 HX.out (H.out.below HB.out) (H'.out.below HB.out) hn hn' B d m xs (K.out.below HB.out) hm HV.out).mono ?_
    rintro e w1 ⟨s, rfl, -, b⟩
    have HB1 := Lib.hid (HB.out.trans (b.mono HB.out.size)); clear b
    go_wp2_with fail
    go_ret
    exact ⟨rfl, HB1.out⟩

end Go.Proofs.Ytcenffndclpjoaa
