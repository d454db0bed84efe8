/-
  EdgeDelete, EdgeContract: the program's.
-/
import Derived.Test.YtpaohaodnchfkaaDelI
namespace Go.Proofs.Ytpaohaodnchfkaa
open Go.RowKit

theorem kd_cases (t f : List Int) (x : Int) : kdR t f x = -1 ∨ 0 ≤ kdR t f x := by
  unfold kdR
  split
  · rename_i h
    have hm := mapV_iff.1 h.1
    have hx : 0 ≤ x ∧ x ≤ ((f.length / 2 : Nat) : Int) - 1 := by simpa [hasEB, inB] using h.2
    refine .inr ?_
    unfold kindE
    split
    · omega
    · rcases but_parts hm (e := x.toNat) (by omega) with h | h <;> omega
  · exact .inl rfl

set_option maxHeartbeats 1600000 in
theorem contracted_any (b0 : Nat) (A A' : Option Addr) (n c c' e a b : Nat) (t f : List Int) (w : World) (hb : Box2 w b0 A n c A' n c') (h : Rd w A n t) (h' : Rd w A' n f) (ht : Vld t) (hf : Vld f) (hp : Paired f) (he : e < n / 2) (ha : dE f e = a) (hab : gn f a = b) (h3 : 3 ≤ n) :
    Calls Try.prog 67 #[.pointer (some ⟨b0, 0, none⟩), .int .i64 e] w fun e w' => ∃ u u', e = .returned (.agg #[u, u']) ∧ OwnM w' w.heap.size u u' (conT t a b) (delF f a b) ∧ Below w.heap.size w w' := by
  obtain ⟨d1, -, -, -⟩ := dE_of hf hp (e := e) (by rw [h'.1]; exact he)
  rw [ha] at d1
  have hbl : b < f.length := by rw [← hab]; exact hf.gn_lt d1
  have hne : a ≠ b := by rw [← hab]; exact ((hp a d1).1).symm
  obtain ⟨hfv, hfl⟩ := delF_vld hf hp d1 hab (by rw [h'.1]; exact h3)
  have hkn := kpN_all d1 hbl hne
  have hcd := con_dual (t := t) hf hp (by rw [h.1, h'.1]) d1 hab (by rw [h'.1]; exact h3)
  obtain ⟨W0, hW0, hy, hbw, hz⟩ := Box.local_ w 28 (.slice none 0 0) (.slice none 0 0)
  have hx0 : Box2 W0 b0 A n c A' n c' := hb.below hbw
  have HX0 := Lib.hid hx0; have HY := Lib.hid hy; have HB := Lib.hid hbw; have HZ := Lib.hid hz; have H := Lib.hid h; have H' := Lib.hid h'; have HT := Lib.hid ht; have HF := Lib.hid hf; have HP := Lib.hid hp; have HAB := Lib.hid hab; have HA := Lib.hid ha; have HFV := Lib.hid hfv; have HCD := Lib.hid hcd
  have HMV := Lib.hid (hf.mulL ht (by rw [h.1, h'.1]))
  have HML : Hid ((mulL f t).length = n) := by rw [Hid, mulL_len, h'.1]
  have HFL : Hid ((delF f a b).length = n - 2) := by rw [Hid, hfl, h'.1]
  have HTL : Hid ((delT (mulL f t) a b).length = n - 2) := by rw [Hid, delT, outI_len, mulL_len, h'.1]; rw [h'.1] at hkn; omega
  clear hx0 hy hbw hz h h' ht hf hp hb ha hab hfv hcd hfl hkn d1 hbl hne
  go_enter Try.func67, Try.ntmps67
  go_wp2_with fail
  refine (dual_any b0 A A' n c c' t f W0 HX0.out (H.out.below HB.out) (H'.out.below HB.out) HF.out).mono ?_
  rintro e' w1 ⟨u, u', rfl, o, bl⟩
  obtain ⟨A1, c1, A2, c2, rfl, rfl, -, -⟩ := o.form HML.out H'.out.1
  have HB1 := Lib.hid (HB.out.trans (bl.mono HB.out.size)); have HY1 := Lib.hid (HY.out.below bl)
  obtain ⟨W2, hW2⟩ : ∃ W2, w1.alloc (.cells #[.slice A1 n c1, .slice A2 n c2] 28) = W2 := ⟨_, rfl⟩
  have hb2 : Below w1.heap.size w1 W2 := by rw [← hW2]; exact (Below.refl _ _).alloc (Nat.le_refl _) _
  have HX2 : Hid (Box2 W2 w1.heap.size A1 n c1 A2 n c2) := by rw [← hW2]; exact Box2.new w1 A1 n c1 A2 n c2
  have HO2 := Lib.hid (o.below hb2)
  have HB2 := Lib.hid (HB1.out.trans (hb2.mono HB1.out.size)); have HY2 := Lib.hid (HY1.out.below hb2)
  clear o bl hb2
  go_wp2_with fail
  clear hW2
  refine (without_any w1.heap.size A1 A2 n c1 c2 e a b (mulL f t) f W2 HX2.out (HO2.out.turn.rd HML.out) (HO2.out.flip.rd H'.out.1) HMV.out HF.out HP.out he HA.out HAB.out).mono ?_
  rintro e' w3 ⟨u, u', rfl, o, bl⟩
  obtain ⟨A3, c3, A4, c4, rfl, rfl, -, -⟩ := o.form HTL.out HFL.out
  have HB3 := Lib.hid (HB2.out.trans (bl.mono HB2.out.size)); have HY3 := Lib.hid (HY2.out.below bl)
  obtain ⟨m, hm⟩ : ∃ m, n - 2 = m := ⟨_, rfl⟩
  have HTM : Hid ((delT (mulL f t) a b).length = m) := HTL.out.trans hm
  have HFM : Hid ((delF f a b).length = m) := HFL.out.trans hm
  rw [hm]
  rw [hm] at o
  obtain ⟨W4, hW4⟩ : ∃ W4, w3.alloc (.cells #[.slice A3 m c3, .slice A4 m c4] 28) = W4 := ⟨_, rfl⟩
  have hb4 : Below w3.heap.size w3 W4 := by rw [← hW4]; exact (Below.refl _ _).alloc (Nat.le_refl _) _
  have HX4 : Hid (Box2 W4 w3.heap.size A3 m c3 A4 m c4) := by rw [← hW4]; exact Box2.new w3 A3 m c3 A4 m c4
  have HO4 := Lib.hid (o.below hb4)
  have HB4 := Lib.hid (HB3.out.trans (hb4.mono HB3.out.size)); have HY4 := Lib.hid (HY3.out.below hb4)
  have hs4 : w.heap.size < W4.heap.size := HY4.out.lt
  clear o bl hb4 hm
  go_wp2_with fail
  clear hW4
  refine (dual_any w3.heap.size A3 A4 m c3 c4 (delT (mulL f t) a b) (delF f a b) W4 HX4.out (HO4.out.turn.rd HTM.out) (HO4.out.flip.rd HFM.out) HFV.out).mono ?_
  rintro e' w5 ⟨u, u', rfl, o, bl⟩
  rw [HCD.out] at o
  obtain ⟨hot, hof, hap⟩ := o
  obtain ⟨A5, c5, rfl, -, -⟩ := hot.form' (n := (conT t a b).length) rfl
  obtain ⟨A6, c6, rfl, -, -⟩ := hof.form' HFM.out
  obtain ⟨l, hl⟩ : ∃ l, (conT t a b).length = l := ⟨_, rfl⟩
  rw [hl] at hot hap ⊢
  have hy := HY4.out.below bl
  have e0 := hy.cell0
  have e1 := hy.cell1
  have e2 := hy.frozen 0
  have e3 := hy.frozen 1
  obtain ⟨hq1, hq2⟩ := hy.store2 (.slice A5 l c5) (.slice A6 m c6)
  have j0 := hq1.cell0
  have j1 := hq1.cell1
  have HD := Lib.hid (pair_done hot hof hap (HB4.out.trans (bl.mono HB4.out.size)) hq2 (by omega) (by omega))
  clear hq1 hq2 hy hot hof hap bl hl
  go_wp2_with fail
  exact bodyPost_ret (v := .agg #[.slice A5 l c5, .slice A6 m c6]) (by simp [results, Try.results67, go_sem, j0, j1]) rfl ⟨_, _, rfl, HD.out.1, HD.out.2⟩

set_option maxRecDepth 20000 in
set_option maxHeartbeats 1600000 in
theorem impl_dlR (w : World) (A A' : Option Addr) (n n' c c' : Nat) (t f : List Int) (h : Rd w A n t) (h' : Rd w A' n' f) (hn : n ≤ 1048576) (hn' : n' ≤ 1048576) (x : Int) (hw : (Lit.int .i64 x).wf = true) {ok : Bool} {yt yf : List Int} (hR : dlR t f x = (ok, yt, yf)) :
    Calls Try.prog 35 #[.agg #[.slice A n c, .slice A' n' c'], .int .i64 x] w fun e w' => ∃ u u', e = .returned (.tuple #[.agg #[u, u'], .bool ok]) ∧ OwnM w' w.heap.size u u' yt yf ∧ Below w.heap.size w w' := by
  obtain ⟨W0, hW0, hx, hy, hb, hz⟩ := two_boxes w 28 28 (.slice A n c) (.slice A' n' c') (.slice none 0 0) (.slice none 0 0)
  have c0 := hx.cell0
  have c1 := hx.cell1
  obtain ⟨r, hr⟩ : ∃ r, kdR t f x = r := ⟨_, rfl⟩
  have hkc := kd_cases t f x
  rw [hr] at hkc
  have HX := Lib.hid hx; have HY := Lib.hid hy; have HB := Lib.hid hb; have HZ := Lib.hid hz; have H := Lib.hid h; have H' := Lib.hid h'; have HKD := Lib.hid hr; clear hx hy hb hz h h'
  have HNO : Hid (∀ w1 : World, Below W0.heap.size W0 w1 → OwnM ((w1.setCell ⟨w.heap.size + 1, 0, none⟩ (.slice none 0 0)).setCell ⟨w.heap.size + 1, 1, none⟩ (.slice none 0 0)) w.heap.size (.slice none 0 0) (.slice none 0 0) [] [] ∧ Below w.heap.size w ((w1.setCell ⟨w.heap.size + 1, 0, none⟩ (.slice none 0 0)).setCell ⟨w.heap.size + 1, 1, none⟩ (.slice none 0 0)) ∧ Box ((w1.setCell ⟨w.heap.size + 1, 0, none⟩ (.slice none 0 0)).setCell ⟨w.heap.size + 1, 1, none⟩ (.slice none 0 0)) (w.heap.size + 1) 28 (.slice none 0 0) (.slice none 0 0)) := by
    intro w1 b
    obtain ⟨hq1, hq2⟩ := (HY.out.below b).store2 (.slice none 0 0) (.slice none 0 0)
    exact ⟨OwnM.nil_ _ _, (HB.out.trans (b.mono HB.out.size)).grown hq2 (by have := HB.out.size; have := b.size; omega) (fun k hk => by cases hk; omega), hq1⟩
  by_cases hk : 0 ≤ r ∧ r ≠ 1 ∧ n ≠ 2
  · obtain ⟨hk0, hk1, hk2⟩ := hk
    obtain ⟨hv, hbe⟩ := kd_pos (t := t) (f := f) (x := x) (by rw [hr]; exact hk0)
    have hm := mapV_iff.1 hv
    obtain rfl : n = n' := hm.same H.out.1 H'.out.1
    have hn12 : n ≤ 12 := by rw [← H'.out.1]; exact hm.flip.2.1
    have hn1 : 1 ≤ n := by rw [← H'.out.1]; exact hm.flip.1
    have hev := lesN_half hm.flip hm.paired
    rw [H'.out.1] at hev
    have hbe' : 0 ≤ x ∧ x ≤ ((f.length / 2 : Nat) : Int) - 1 := by simpa [hasEB, inB] using hbe
    obtain ⟨e, rfl⟩ := Int.eq_ofNat_of_zero_le hbe'.1
    have he : e < n / 2 := by rw [H'.out.1] at hbe'; omega
    obtain ⟨a, ha⟩ : ∃ a, dE f e = a := ⟨_, rfl⟩
    obtain ⟨b, hb⟩ : ∃ b, gn f a = b := ⟨_, rfl⟩
    have HYS : Hid (ok = true ∧ yt = delT t a b ∧ yf = delF f a b) := by
      rw [Hid]
      have := hR
      rw [dlR, if_pos ⟨by rw [hr]; exact hk0, by rw [hr]; exact hk1, by rw [H.out.1]; exact hk2⟩, aE, Int.toNat_natCast, ha, hb] at this
      simpa [eq_comm] using this
    obtain ⟨h2, hh2⟩ : ∃ h2, n / 2 = h2 := ⟨_, rfl⟩
    have hd0 : (r == -1) = false := by simp; omega
    have hd1 : (r == 1) = false := by simp [hk1]
    have hd2 : ((h2 : Int) == 1) = false := by simp; omega
    have h3 : 3 ≤ n := by omega
    have HM := Lib.hid hm; have HA := Lib.hid ha; have HAB := Lib.hid hb; have HH := Lib.hid hh2
    clear hv hm hbe hbe' hr hR ha hb hk0 hk1 hk2 hev hh2 hkc
    go_enter Try.func35, Try.ntmps35
    go_wp2_with fail
    refine (impl_kdR W0 A A' n n c c' t f (H.out.below HB.out) (H'.out.below HB.out) hn hn' (e : Int) hw HKD.out).mono ?_
    rintro e' w1 ⟨rfl, bl⟩
    have HX1 := Lib.hid (HX.out.below bl)
    have HB1 := Lib.hid (HB.out.trans (bl.mono HB.out.size)); have HY1 := Lib.hid (HY.out.below bl); have HZ1 := Lib.hid bl.size
    clear bl c0 c1
    go_wp2_with fail
    refine (edgeCount_any w.heap.size A A' n n c c' h2 w1 HX1.out hn' HH.out).mono ?_
    rintro e' w2 ⟨rfl, rfl⟩
    go_wp2_with fail
    refine (without_any w.heap.size A A' n c c' e a b t f w1 HX1.out (H.out.below HB1.out) (H'.out.below HB1.out) HM.out.turn HM.out.flip HM.out.paired he HA.out HAB.out).mono ?_
    rintro e' w3 ⟨u, u', rfl, o, bl⟩
    obtain ⟨hot, hof, hap⟩ := o
    obtain ⟨l, hl⟩ : ∃ l, (delT t a b).length = l := ⟨_, rfl⟩
    obtain ⟨l', hl'⟩ : ∃ l', (delF f a b).length = l' := ⟨_, rfl⟩
    obtain ⟨A5, c5, rfl, -, -⟩ := hot.form' hl
    obtain ⟨A6, c6, rfl, -, -⟩ := hof.form' hl'
    have hy := HY1.out.below bl
    have e0 := hy.cell0
    have e1 := hy.cell1
    have e2 := hy.frozen 0
    have e3 := hy.frozen 1
    have hs1 := HZ.out
    have hs2 := HZ1.out
    obtain ⟨hq1, hq2⟩ := hy.store2 (.slice A5 l c5) (.slice A6 l' c6)
    have j0 := hq1.cell0
    have j1 := hq1.cell1
    have HD := Lib.hid (pair_done hot hof hap (HB1.out.trans (bl.mono HB1.out.size)) hq2 (by omega) (by omega))
    clear hq1 hq2 hy hot hof hap bl hl hl'
    go_wp2_with fail
    exact bodyPost_ret (v := .tuple #[.agg #[.slice A5 l c5, .slice A6 l' c6], .bool true]) (by simp [results, Try.results35, go_sem, j0, j1]) rfl ⟨_, _, by rw [HYS.out.1], by rw [HYS.out.2.1, HYS.out.2.2]; exact HD.out.1, HD.out.2⟩
  · obtain ⟨rfl, rfl, rfl⟩ : ok = false ∧ yt = [] ∧ yf = [] := by
      have := hR
      rw [dlR, if_neg (fun hh => hk ⟨by rw [← hr]; exact hh.1, by rw [← hr]; exact hh.2.1, by rw [← H.out.1]; exact hh.2.2⟩)] at this
      simpa [eq_comm] using this
    have key : r = -1 ∨ (0 ≤ r ∧ r = 1) ∨ (0 ≤ r ∧ r ≠ 1 ∧ n = 2) := by omega
    have HPV : Hid (0 ≤ r → n = n') := fun h0 => (mapV_iff.1 (kd_pos (t := t) (f := f) (x := x) (by rw [hr]; exact h0)).1).same H.out.1 H'.out.1
    clear hk hR hr hkc
    rcases key with h1 | ⟨h1, h2⟩ | ⟨h1, h2, h3⟩
    · have hd0 : (r == -1) = true := by simp [h1]
      clear h1
      go_enter Try.func35, Try.ntmps35
      go_wp2_with fail
      refine (impl_kdR W0 A A' n n' c c' t f (H.out.below HB.out) (H'.out.below HB.out) hn hn' x hw HKD.out).mono ?_
      rintro e' w1 ⟨rfl, bl⟩
      obtain ⟨ho, hbw, hbx⟩ := HNO.out w1 bl
      have hy1 := HY.out.below bl
      have e0 := hy1.cell0
      have e1 := hy1.cell1
      have e2 := hy1.frozen 0
      have e3 := hy1.frozen 1
      have k0 := hbx.cell0
      have k1 := hbx.cell1
      have HO := Lib.hid ho; have HBW := Lib.hid hbw
      clear ho hbw hbx bl hy1 c0 c1
      go_wp2_with fail
      exact bodyPost_ret (v := .tuple #[.agg #[.slice none 0 0, .slice none 0 0], .bool false]) (by simp [results, Try.results35, go_sem, k0, k1]) rfl ⟨_, _, rfl, HO.out, HBW.out⟩
    · have hd0 : (r == -1) = false := by simp; omega
      have hd1 : (r == 1) = true := by simp [h2]
      clear h1 h2
      go_enter Try.func35, Try.ntmps35
      go_wp2_with fail
      refine (impl_kdR W0 A A' n n' c c' t f (H.out.below HB.out) (H'.out.below HB.out) hn hn' x hw HKD.out).mono ?_
      rintro e' w1 ⟨rfl, bl⟩
      obtain ⟨ho, hbw, hbx⟩ := HNO.out w1 bl
      have hy1 := HY.out.below bl
      have e0 := hy1.cell0
      have e1 := hy1.cell1
      have e2 := hy1.frozen 0
      have e3 := hy1.frozen 1
      have k0 := hbx.cell0
      have k1 := hbx.cell1
      have HO := Lib.hid ho; have HBW := Lib.hid hbw
      clear ho hbw hbx bl hy1 c0 c1
      go_wp2_with fail
      exact bodyPost_ret (v := .tuple #[.agg #[.slice none 0 0, .slice none 0 0], .bool false]) (by simp [results, Try.results35, go_sem, k0, k1]) rfl ⟨_, _, rfl, HO.out, HBW.out⟩
    · have hd0 : (r == -1) = false := by simp; omega
      have hd1 : (r == 1) = false := by simp [h2]
      have HN2 : Hid (n' / 2 = 1) := by have := HPV.out h1; rw [Hid]; omega
      clear h1 h2 h3
      go_enter Try.func35, Try.ntmps35
      go_wp2_with fail
      refine (impl_kdR W0 A A' n n' c c' t f (H.out.below HB.out) (H'.out.below HB.out) hn hn' x hw HKD.out).mono ?_
      rintro e' w1 ⟨rfl, bl⟩
      obtain ⟨ho, hbw, hbx⟩ := HNO.out w1 bl
      have HX1 := Lib.hid (HX.out.below bl)
      have hy1 := HY.out.below bl
      have e0 := hy1.cell0
      have e1 := hy1.cell1
      have e2 := hy1.frozen 0
      have e3 := hy1.frozen 1
      have k0 := hbx.cell0
      have k1 := hbx.cell1
      have HO := Lib.hid ho; have HBW := Lib.hid hbw
      clear ho hbw hbx bl hy1 c0 c1
      go_wp2_with fail
      refine (edgeCount_any w.heap.size A A' n n' c c' 1 w1 HX1.out hn' HN2.out).mono ?_
      rintro e' w2 ⟨rfl, rfl⟩
      go_wp2_with fail
      exact bodyPost_ret (v := .tuple #[.agg #[.slice none 0 0, .slice none 0 0], .bool false]) (by simp [results, Try.results35, go_sem, k0, k1]) rfl ⟨_, _, rfl, HO.out, HBW.out⟩

set_option maxRecDepth 20000 in
set_option maxHeartbeats 1600000 in
theorem impl_cnR (w : World) (A A' : Option Addr) (n n' c c' : Nat) (t f : List Int) (h : Rd w A n t) (h' : Rd w A' n' f) (hn : n ≤ 1048576) (hn' : n' ≤ 1048576) (x : Int) (hw : (Lit.int .i64 x).wf = true) {ok : Bool} {yt yf : List Int} (hR : cnR t f x = (ok, yt, yf)) :
    Calls Try.prog 38 #[.agg #[.slice A n c, .slice A' n' c'], .int .i64 x] w fun e w' => ∃ u u', e = .returned (.tuple #[.agg #[u, u'], .bool ok]) ∧ OwnM w' w.heap.size u u' yt yf ∧ Below w.heap.size w w' := by
  obtain ⟨W0, hW0, hx, hy, hb, hz⟩ := two_boxes w 28 28 (.slice A n c) (.slice A' n' c') (.slice none 0 0) (.slice none 0 0)
  have c0 := hx.cell0
  have c1 := hx.cell1
  obtain ⟨r, hr⟩ : ∃ r, kdR t f x = r := ⟨_, rfl⟩
  have hkc := kd_cases t f x
  rw [hr] at hkc
  have HX := Lib.hid hx; have HY := Lib.hid hy; have HB := Lib.hid hb; have HZ := Lib.hid hz; have H := Lib.hid h; have H' := Lib.hid h'; have HKD := Lib.hid hr; clear hx hy hb hz h h'
  have HNO : Hid (∀ w1 : World, Below W0.heap.size W0 w1 → OwnM ((w1.setCell ⟨w.heap.size + 1, 0, none⟩ (.slice none 0 0)).setCell ⟨w.heap.size + 1, 1, none⟩ (.slice none 0 0)) w.heap.size (.slice none 0 0) (.slice none 0 0) [] [] ∧ Below w.heap.size w ((w1.setCell ⟨w.heap.size + 1, 0, none⟩ (.slice none 0 0)).setCell ⟨w.heap.size + 1, 1, none⟩ (.slice none 0 0)) ∧ Box ((w1.setCell ⟨w.heap.size + 1, 0, none⟩ (.slice none 0 0)).setCell ⟨w.heap.size + 1, 1, none⟩ (.slice none 0 0)) (w.heap.size + 1) 28 (.slice none 0 0) (.slice none 0 0)) := by
    intro w1 b
    obtain ⟨hq1, hq2⟩ := (HY.out.below b).store2 (.slice none 0 0) (.slice none 0 0)
    exact ⟨OwnM.nil_ _ _, (HB.out.trans (b.mono HB.out.size)).grown hq2 (by have := HB.out.size; have := b.size; omega) (fun k hk => by cases hk; omega), hq1⟩
  by_cases hk : 0 ≤ r ∧ r ≠ 2 ∧ n ≠ 2
  · obtain ⟨hk0, hk1, hk2⟩ := hk
    obtain ⟨hv, hbe⟩ := kd_pos (t := t) (f := f) (x := x) (by rw [hr]; exact hk0)
    have hm := mapV_iff.1 hv
    obtain rfl : n = n' := hm.same H.out.1 H'.out.1
    have hn12 : n ≤ 12 := by rw [← H'.out.1]; exact hm.flip.2.1
    have hn1 : 1 ≤ n := by rw [← H'.out.1]; exact hm.flip.1
    have hev := lesN_half hm.flip hm.paired
    rw [H'.out.1] at hev
    have hbe' : 0 ≤ x ∧ x ≤ ((f.length / 2 : Nat) : Int) - 1 := by simpa [hasEB, inB] using hbe
    obtain ⟨e, rfl⟩ := Int.eq_ofNat_of_zero_le hbe'.1
    have he : e < n / 2 := by rw [H'.out.1] at hbe'; omega
    obtain ⟨a, ha⟩ : ∃ a, dE f e = a := ⟨_, rfl⟩
    obtain ⟨b, hb⟩ : ∃ b, gn f a = b := ⟨_, rfl⟩
    have HYS : Hid (ok = true ∧ yt = conT t a b ∧ yf = delF f a b) := by
      rw [Hid]
      have := hR
      rw [cnR, if_pos ⟨by rw [hr]; exact hk0, by rw [hr]; exact hk1, by rw [H.out.1]; exact hk2⟩, aE, Int.toNat_natCast, ha, hb] at this
      simpa [eq_comm] using this
    obtain ⟨h2, hh2⟩ : ∃ h2, n / 2 = h2 := ⟨_, rfl⟩
    have hd0 : (r == -1) = false := by simp; omega
    have hd1 : (r == 2) = false := by simp [hk1]
    have hd2 : ((h2 : Int) == 1) = false := by simp; omega
    have h3 : 3 ≤ n := by omega
    have HM := Lib.hid hm; have HA := Lib.hid ha; have HAB := Lib.hid hb; have HH := Lib.hid hh2
    clear hv hm hbe hbe' hr hR ha hb hk0 hk1 hk2 hev hh2 hkc
    go_enter Try.func38, Try.ntmps38
    go_wp2_with fail
    refine (impl_kdR W0 A A' n n c c' t f (H.out.below HB.out) (H'.out.below HB.out) hn hn' (e : Int) hw HKD.out).mono ?_
    rintro e' w1 ⟨rfl, bl⟩
    have HX1 := Lib.hid (HX.out.below bl)
    have HB1 := Lib.hid (HB.out.trans (bl.mono HB.out.size)); have HY1 := Lib.hid (HY.out.below bl); have HZ1 := Lib.hid bl.size
    clear bl c0 c1
    go_wp2_with fail
    refine (edgeCount_any w.heap.size A A' n n c c' h2 w1 HX1.out hn' HH.out).mono ?_
    rintro e' w2 ⟨rfl, rfl⟩
    go_wp2_with fail
    refine (contracted_any w.heap.size A A' n c c' e a b t f w1 HX1.out (H.out.below HB1.out) (H'.out.below HB1.out) HM.out.turn HM.out.flip HM.out.paired he HA.out HAB.out h3).mono ?_
    rintro e' w3 ⟨u, u', rfl, o, bl⟩
    obtain ⟨hot, hof, hap⟩ := o
    obtain ⟨l, hl⟩ : ∃ l, (conT t a b).length = l := ⟨_, rfl⟩
    obtain ⟨l', hl'⟩ : ∃ l', (delF f a b).length = l' := ⟨_, rfl⟩
    obtain ⟨A5, c5, rfl, -, -⟩ := hot.form' hl
    obtain ⟨A6, c6, rfl, -, -⟩ := hof.form' hl'
    have hy := HY1.out.below bl
    have e0 := hy.cell0
    have e1 := hy.cell1
    have e2 := hy.frozen 0
    have e3 := hy.frozen 1
    have hs1 := HZ.out
    have hs2 := HZ1.out
    obtain ⟨hq1, hq2⟩ := hy.store2 (.slice A5 l c5) (.slice A6 l' c6)
    have j0 := hq1.cell0
    have j1 := hq1.cell1
    have HD := Lib.hid (pair_done hot hof hap (HB1.out.trans (bl.mono HB1.out.size)) hq2 (by omega) (by omega))
    clear hq1 hq2 hy hot hof hap bl hl hl'
    go_wp2_with fail
    exact bodyPost_ret (v := .tuple #[.agg #[.slice A5 l c5, .slice A6 l' c6], .bool true]) (by simp [results, Try.results38, go_sem, j0, j1]) rfl ⟨_, _, by rw [HYS.out.1], by rw [HYS.out.2.1, HYS.out.2.2]; exact HD.out.1, HD.out.2⟩
  · obtain ⟨rfl, rfl, rfl⟩ : ok = false ∧ yt = [] ∧ yf = [] := by
      have := hR
      rw [cnR, if_neg (fun hh => hk ⟨by rw [← hr]; exact hh.1, by rw [← hr]; exact hh.2.1, by rw [← H.out.1]; exact hh.2.2⟩)] at this
      simpa [eq_comm] using this
    have key : r = -1 ∨ (0 ≤ r ∧ r = 2) ∨ (0 ≤ r ∧ r ≠ 2 ∧ n = 2) := by omega
    have HPV : Hid (0 ≤ r → n = n') := fun h0 => (mapV_iff.1 (kd_pos (t := t) (f := f) (x := x) (by rw [hr]; exact h0)).1).same H.out.1 H'.out.1
    clear hk hR hr hkc
    rcases key with h1 | ⟨h1, h2⟩ | ⟨h1, h2, h3⟩
    · have hd0 : (r == -1) = true := by simp [h1]
      clear h1
      go_enter Try.func38, Try.ntmps38
      go_wp2_with fail
      refine (impl_kdR W0 A A' n n' c c' t f (H.out.below HB.out) (H'.out.below HB.out) hn hn' x hw HKD.out).mono ?_
      rintro e' w1 ⟨rfl, bl⟩
      obtain ⟨ho, hbw, hbx⟩ := HNO.out w1 bl
      have hy1 := HY.out.below bl
      have e0 := hy1.cell0
      have e1 := hy1.cell1
      have e2 := hy1.frozen 0
      have e3 := hy1.frozen 1
      have k0 := hbx.cell0
      have k1 := hbx.cell1
      have HO := Lib.hid ho; have HBW := Lib.hid hbw
      clear ho hbw hbx bl hy1 c0 c1
      go_wp2_with fail
      exact bodyPost_ret (v := .tuple #[.agg #[.slice none 0 0, .slice none 0 0], .bool false]) (by simp [results, Try.results38, go_sem, k0, k1]) rfl ⟨_, _, rfl, HO.out, HBW.out⟩
    · have hd0 : (r == -1) = false := by simp; omega
      have hd1 : (r == 2) = true := by simp [h2]
      clear h1 h2
      go_enter Try.func38, Try.ntmps38
      go_wp2_with fail
      refine (impl_kdR W0 A A' n n' c c' t f (H.out.below HB.out) (H'.out.below HB.out) hn hn' x hw HKD.out).mono ?_
      rintro e' w1 ⟨rfl, bl⟩
      obtain ⟨ho, hbw, hbx⟩ := HNO.out w1 bl
      have hy1 := HY.out.below bl
      have e0 := hy1.cell0
      have e1 := hy1.cell1
      have e2 := hy1.frozen 0
      have e3 := hy1.frozen 1
      have k0 := hbx.cell0
      have k1 := hbx.cell1
      have HO := Lib.hid ho; have HBW := Lib.hid hbw
      clear ho hbw hbx bl hy1 c0 c1
      go_wp2_with fail
      exact bodyPost_ret (v := .tuple #[.agg #[.slice none 0 0, .slice none 0 0], .bool false]) (by simp [results, Try.results38, go_sem, k0, k1]) rfl ⟨_, _, rfl, HO.out, HBW.out⟩
    · have hd0 : (r == -1) = false := by simp; omega
      have hd1 : (r == 2) = false := by simp [h2]
      have HN2 : Hid (n' / 2 = 1) := by have := HPV.out h1; rw [Hid]; omega
      clear h1 h2 h3
      go_enter Try.func38, Try.ntmps38
      go_wp2_with fail
      refine (impl_kdR W0 A A' n n' c c' t f (H.out.below HB.out) (H'.out.below HB.out) hn hn' x hw HKD.out).mono ?_
      rintro e' w1 ⟨rfl, bl⟩
      obtain ⟨ho, hbw, hbx⟩ := HNO.out w1 bl
      have HX1 := Lib.hid (HX.out.below bl)
      have hy1 := HY.out.below bl
      have e0 := hy1.cell0
      have e1 := hy1.cell1
      have e2 := hy1.frozen 0
      have e3 := hy1.frozen 1
      have k0 := hbx.cell0
      have k1 := hbx.cell1
      have HO := Lib.hid ho; have HBW := Lib.hid hbw
      clear ho hbw hbx bl hy1 c0 c1
      go_wp2_with fail
      refine (edgeCount_any w.heap.size A A' n n' c c' 1 w1 HX1.out hn' HN2.out).mono ?_
      rintro e' w2 ⟨rfl, rfl⟩
      go_wp2_with fail
      exact bodyPost_ret (v := .tuple #[.agg #[.slice none 0 0, .slice none 0 0], .bool false]) (by simp [results, Try.results38, go_sem, k0, k1]) rfl ⟨_, _, rfl, HO.out, HBW.out⟩

end Go.Proofs.Ytpaohaodnchfkaa
