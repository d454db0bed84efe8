/-
  MapLeast: the first of the least forms: the model's.
-/
import Derived.Test.YtjpebcomecoheaaTimes
namespace Go.Proofs.Ytjpebcomecoheaa
open Go.RowKit

/-- Which of the forms from the darts 0 to k is the first of the least. -/
def leastTo (t f : List Int) : Nat → Nat
  | 0 => 0
  | k + 1 => if cmpM (formT t f (k + 1)) (formF t f (k + 1)) (formT t f (leastTo t f k)) (formF t f (leastTo t f k)) < 0 then k + 1 else leastTo t f k
theorem leastTo_le (t f : List Int) : ∀ k, leastTo t f k ≤ k
  | 0 => Nat.le_refl _
  | k + 1 => by
    have := leastTo_le t f k
    rw [leastTo]
    split <;> omega
theorem leastTo_yes {t f : List Int} {k : Nat} (hk : 1 ≤ k) (h : cmpM (formT t f k) (formF t f k) (formT t f (leastTo t f (k - 1))) (formF t f (leastTo t f (k - 1))) < 0) : leastTo t f k = k := by
  obtain ⟨j, rfl⟩ : ∃ j, k = j + 1 := ⟨k - 1, by omega⟩
  rw [Nat.add_sub_cancel] at h
  rw [leastTo, if_pos h]
theorem leastTo_no {t f : List Int} {k : Nat} (hk : 1 ≤ k) (h : ¬ cmpM (formT t f k) (formF t f k) (formT t f (leastTo t f (k - 1))) (formF t f (leastTo t f (k - 1))) < 0) : leastTo t f k = leastTo t f (k - 1) := by
  obtain ⟨j, rfl⟩ : ∃ j, k = j + 1 := ⟨k - 1, by omega⟩
  rw [Nat.add_sub_cancel] at h ⊢
  rw [leastTo, if_neg h]
noncomputable def leastR (t f : List Int) : Bool × List Int × List Int := if mapV t f = true then (true, formT t f (leastTo t f (t.length - 1)), formF t f (leastTo t f (t.length - 1))) else (false, [], [])
theorem leastR_len {t f yt yf : List Int} {ok : Bool} (h : leastR t f = (ok, yt, yf)) : yt.length ≤ 12 ∧ yf.length ≤ 12 := by
  unfold leastR at h
  split at h
  · rename_i hb
    injection h with _ h; injection h with h1 h2
    have hm := mapV_iff.1 hb
    have h1' := hm.turn.1
    have hl := leastTo_le t f (t.length - 1)
    rw [← h1, ← h2, formT_len hm (by omega), formF_len hm (by omega)]; exact ⟨hm.turn.2.1, hm.turn.2.1⟩
  · injection h with _ h; injection h with h1 h2; rw [← h1, ← h2]; simp

theorem OwnM.set {w : World} {lo g : Nat} {u u' v v' : Value} {t f : List Int} (o : OwnM w lo u u' t f) (h1 : ∀ b, u.ownBlock = some b → b ≠ g) (h2 : ∀ b, u'.ownBlock = some b → b ≠ g) :
    OwnM ((w.setCell ⟨g, 0, none⟩ v).setCell ⟨g, 1, none⟩ v') lo u u' t f := by
  have hc : Chg g (g + 1) w ((w.setCell ⟨g, 0, none⟩ v).setCell ⟨g, 1, none⟩ v') := Chg.of_grown (grownBy_trans (grown_set _ _ _ _) (grown_set _ _ _ _)) (fun b e => by cases e; omega)
  exact o.chg hc (fun b hb => by have := h1 b hb; omega) (fun b hb => by have := h2 b hb; omega)

/-- A variable, apart from the lists that it names, that holds a map. -/
structure Best (w : World) (lo g : Nat) (n : Nat) (t f : List Int) (u u' : Value) : Prop where
  box : Box w g 38 u u'
  own : OwnM w lo u u' t f
  one : ∀ b, u.ownBlock = some b → b ≠ g
  two : ∀ b, u'.ownBlock = some b → b ≠ g
theorem Best.below {w w' : World} {lo g n : Nat} {t f : List Int} {u u' : Value} (h : Best w lo g n t f u u') (hb : Below w.heap.size w w') : Best w' lo g n t f u u' := ⟨h.box.below hb, h.own.below hb, h.one, h.two⟩

set_option maxHeartbeats 3200000 in
theorem l2Least_any (w : World) (A A' : Option Addr) (n c c' : Nat) (t f : List Int) (h : Rd w A n t) (h' : Rd w A' n f) (hm : IsMap t f) :
    Calls Try.prog 98 #[.agg #[.slice A n c, .slice A' n c']] w fun e w' => ∃ u u', e = .returned (.agg #[u, u']) ∧ OwnM w' w.heap.size u u' (formT t f (leastTo t f (n - 1))) (formF t f (leastTo t f (n - 1))) ∧ Below w.heap.size w w' := by
  have hn12 : n ≤ 12 := by rw [← h.1]; exact hm.turn.2.1
  have hn1 : 0 < n := by rw [← h.1]; exact hm.turn.1
  have HLT : Hid (∀ k, k < n → (formT t f k).length = n) := fun k hk => (formT_len hm (by rw [h.1]; exact hk)).trans h.1
  have HLF : Hid (∀ k, k < n → (formF t f k).length = n) := fun k hk => (formF_len hm (by rw [h.1]; exact hk)).trans h.1
  obtain ⟨W0, hW0, hx, hy, hbl, hz⟩ := two_boxes w 38 38 (.slice A n c) (.slice A' n c') (.slice none 0 0) (.slice none 0 0)
  have c0 := hx.cell0
  have c1 := hx.cell1
  have HX := Lib.hid hx; have HY := Lib.hid hy; have HB := Lib.hid hbl; have HZ := Lib.hid hz; have H := Lib.hid h; have H' := Lib.hid h'; have HM := Lib.hid hm; clear hx hy hbl hz h h' hm
  go_enter Try.func98, Try.ntmps98
  go_wp2_with fail
  refine (l2Form_any W0 A A' n c c' 0 t f (H.out.below HB.out) (H'.out.below HB.out) HM.out hn1).mono ?_
  rintro e w1 ⟨u, u', rfl, o, bl⟩
  obtain ⟨A3, c3, A4, c4, rfl, rfl, -, -⟩ := o.form (HLT.out 0 hn1) (HLF.out 0 hn1)
  obtain ⟨W3, hW3, hz, hb3, hs3⟩ := Box.local_ w1 38 (.slice none 0 0) (.slice none 0 0)
  have z0 := hz.cell0; have z1 := hz.cell1; have z2 := hz.frozen 0; have z3 := hz.frozen 1
  obtain ⟨q1, q2⟩ := hz.store2 (.slice A3 n c3) (.slice A4 n c4)
  obtain ⟨g, hg⟩ : ∃ g, w1.heap.size = g := ⟨_, rfl⟩
  have hbq : Below w1.heap.size w1 ((W3.setCell ⟨w1.heap.size, 0, none⟩ (.slice A3 n c3)).setCell ⟨w1.heap.size, 1, none⟩ (.slice A4 n c4)) := hb3.grown q2 hb3.size (fun k hk => by cases hk; omega)
  have hlt1 := o.turn.lt; have hlt2 := o.flip.lt
  have HBE : Hid (Best ((W3.setCell ⟨w1.heap.size, 0, none⟩ (.slice A3 n c3)).setCell ⟨w1.heap.size, 1, none⟩ (.slice A4 n c4)) W0.heap.size w1.heap.size n (formT t f (leastTo t f 0)) (formF t f (leastTo t f 0)) (.slice A3 n c3) (.slice A4 n c4)) :=
    ⟨q1, o.below hbq, fun b hb => by have := hlt1 b hb; omega, fun b hb => by have := hlt2 b hb; omega⟩
  have HB0 : Hid (Below W0.heap.size W0 ((W3.setCell ⟨w1.heap.size, 0, none⟩ (.slice A3 n c3)).setCell ⟨w1.heap.size, 1, none⟩ (.slice A4 n c4))) := bl.trans (hbq.mono bl.size)
  have HGS : Hid (W0.heap.size ≤ w1.heap.size) := bl.size
  clear hlt1 hlt2 hbq q1 q2 hz hb3 hs3 o bl hg g
  go_wp2_with fail
  go_loopw [4] (fun i wr => ∃ (k : Nat) (B B' : Option Addr) (d d' : Nat), 1 ≤ k ∧ k ≤ n ∧ i = .int .i64 k ∧ Below W0.heap.size W0 wr ∧ Best wr W0.heap.size w1.heap.size n (formT t f (leastTo t f (k - 1))) (formF t f (leastTo t f (k - 1))) (.slice B n d) (.slice B' n d')) (fun i _ => n - (intOf i).toNat)
  case atStart => exact ⟨1, A3, A4, c3, c4, Nat.le_refl _, hn1, rfl, HB0.out, HBE.out⟩
  case round =>
    clear z0 z1 z2 z3 c0 c1
    obtain ⟨k, B, B', d, d', hk1, hk, rfl, hb, hbe⟩ := hrel
    have HBr := Lib.hid hb; have HBE2 := Lib.hid hbe; clear hb hbe
    have c0 := (HX.out.below HBr.out).cell0
    have c1 := (HX.out.below HBr.out).cell1
    have HB2 := Lib.hid (HB.out.trans (HBr.out.mono HB.out.size))
    have hle := leastTo_le t f (k - 1)
    by_cases hlt : k < n
    · go_wp2_with fail
      refine (l2Form_any _ A A' n c c' k t f (H.out.below HB2.out) (H'.out.below HB2.out) HM.out hlt).mono ?_
      rintro e w2 ⟨v, v', rfl, o, bl⟩
      obtain ⟨A5, c5, A6, c6, rfl, rfl, r5, r6⟩ := o.form (HLT.out k hlt) (HLF.out k hlt)
      obtain ⟨W4, hW4, hz, hb4, hs4⟩ := Box.local_ w2 38 (.slice none 0 0) (.slice none 0 0)
      have z0 := hz.cell0; have z1 := hz.cell1; have z2 := hz.frozen 0; have z3 := hz.frozen 1
      obtain ⟨q1, q2⟩ := hz.store2 (.slice A5 n c5) (.slice A6 n c6)
      have hbq : Below w2.heap.size w2 ((W4.setCell ⟨w2.heap.size, 0, none⟩ (.slice A5 n c5)).setCell ⟨w2.heap.size, 1, none⟩ (.slice A6 n c6)) := hb4.grown q2 hb4.size (fun k hk => by cases hk; omega)
      have x0 := q1.cell0; have x1 := q1.cell1
      have hbe := (HBE2.out.below bl).below hbq
      have y0 := hbe.box.cell0; have y1 := hbe.box.cell1
      have HO5 := Lib.hid ((o.below hbq).mono HBr.out.size)
      have HO5s : Hid (∀ b, (Value.slice A5 n c5).ownBlock = some b → wr.heap.size ≤ b) := fun b hb => (o.turn.lt b hb).1
      have HO6s : Hid (∀ b, (Value.slice A6 n c6).ownBlock = some b → wr.heap.size ≤ b) := fun b hb => (o.flip.lt b hb).1
      have HR5 := Lib.hid (r5.below hbq); have HR6 := Lib.hid (r6.below hbq)
      have HBE3 := Lib.hid hbe
      have HQ1 := Lib.hid q1
      have HBr2 := HBr.out.trans (bl.mono HBr.out.size)
      have HBr3 := Lib.hid (HBr2.trans (hbq.mono HBr2.size))
      have hgw : w1.heap.size < wr.heap.size := HBE2.out.box.lt
      obtain ⟨B3, d3, B4, d4, e3, e4, r7, r8⟩ := hbe.own.form (HLT.out _ (by omega)) (HLF.out _ (by omega))
      injection e3 with e31 e32 e33; injection e4 with e41 e42 e43
      subst e31; subst e33; subst e41; subst e43
      have HR7 := Lib.hid r7; have HR8 := Lib.hid r8
      clear o bl hz hb4 hs4 q1 q2 hbq hbe HBr2 r5 r6 r7 r8
      by_cases hs : cmpM (formT t f k) (formF t f k) (formT t f (leastTo t f (k - 1))) (formF t f (leastTo t f (k - 1))) < 0
      · have HL := Lib.hid (leastTo_yes hk1 hs)
        obtain ⟨r, hr⟩ : ∃ r, cmpM (formT t f k) (formF t f k) (formT t f (leastTo t f (k - 1))) (formF t f (leastTo t f (k - 1))) = r := ⟨_, rfl⟩
        rw [hr] at hs
        have HR := Lib.hid hr; clear hr
        go_wp2_with fail
        refine (l2Before_lit _ A5 A6 B B' n c5 c6 d d' _ _ _ _ HR5.out HR6.out HR7.out HR8.out hn12 HR.out).mono ?_
        rintro e w5 ⟨rfl, bl⟩
        have hbe := HBE3.out.below bl
        have HBr4 := Lib.hid (HBr3.out.trans (bl.mono HBr3.out.size))
        have x0 := (HQ1.out.below bl).cell0; have x1 := (HQ1.out.below bl).cell1
        have y0 := hbe.box.cell0; have y1 := hbe.box.cell1; have y2 := hbe.box.frozen 0; have y3 := hbe.box.frozen 1
        have HBEn : Hid (Best ((w5.setCell ⟨w1.heap.size, 0, none⟩ (.slice A5 n c5)).setCell ⟨w1.heap.size, 1, none⟩ (.slice A6 n c6)) W0.heap.size w1.heap.size n (formT t f (leastTo t f (k + 1 - 1))) (formF t f (leastTo t f (k + 1 - 1))) (.slice A5 n c5) (.slice A6 n c6)) := by
          have n1 : ∀ b, (Value.slice A5 n c5).ownBlock = some b → b ≠ w1.heap.size := fun b hb => by have := HO5s.out b hb; omega
          have n2 : ∀ b, (Value.slice A6 n c6).ownBlock = some b → b ≠ w1.heap.size := fun b hb => by have := HO6s.out b hb; omega
          rw [Nat.add_sub_cancel, HL.out]
          exact ⟨(hbe.box.store2 _ _).1, (HO5.out.below bl).set n1 n2, n1, n2⟩
        have HBn := Lib.hid ((HBr4.out.setCell (p := ⟨w1.heap.size, 0, none⟩) HGS.out (.slice A5 n c5)).setCell (p := ⟨w1.heap.size, 1, none⟩) HGS.out (.slice A6 n c6))
        clear hbe bl z0 z1 z2 z3
        go_wp2
        go_roundw
        case rel => exact ⟨k + 1, A5, A6, c5, c6, by omega, by omega, by go_num, HBn.out, HBEn.out⟩
        case measure => simp [intOf]; omega
      · have HL := Lib.hid (leastTo_no hk1 hs)
        obtain ⟨r, hr⟩ : ∃ r, cmpM (formT t f k) (formF t f k) (formT t f (leastTo t f (k - 1))) (formF t f (leastTo t f (k - 1))) = r := ⟨_, rfl⟩
        rw [hr] at hs
        have HR := Lib.hid hr; clear hr
        go_wp2_with fail
        refine (l2Before_lit _ A5 A6 B B' n c5 c6 d d' _ _ _ _ HR5.out HR6.out HR7.out HR8.out hn12 HR.out).mono ?_
        rintro e w5 ⟨rfl, bl⟩
        have hbe := HBE3.out.below bl
        have HBr4 := Lib.hid (HBr3.out.trans (bl.mono HBr3.out.size))
        have HBEn : Hid (Best w5 W0.heap.size w1.heap.size n (formT t f (leastTo t f (k + 1 - 1))) (formF t f (leastTo t f (k + 1 - 1))) (.slice B n d) (.slice B' n d')) := by
          rw [Nat.add_sub_cancel, HL.out]; exact hbe
        clear hbe bl z0 z1 z2 z3
        go_wp2
        go_roundw
        case rel => exact ⟨k + 1, B, B', d, d', by omega, by omega, by go_num, HBr4.out, HBEn.out⟩
        case measure => simp [intOf]; omega
    · have hkn : k = n := by omega
      have HK := Lib.hid hkn; clear hkn
      have hy := HY.out.below HBr.out
      have e0 := hy.cell0; have e1 := hy.cell1; have e2 := hy.frozen 0; have e3 := hy.frozen 1
      have y0 := HBE2.out.box.cell0; have y1 := HBE2.out.box.cell1
      obtain ⟨hq1, hq2⟩ := hy.store2 (.slice B n d) (.slice B' n d')
      have k0 := hq1.cell0; have k1 := hq1.cell1
      have hs2 := HZ.out
      have HD := Lib.hid (pair_done HBE2.out.own.turn HBE2.out.own.flip HBE2.out.own.apart HB2.out hq2 (by omega) (by omega))
      clear hq1 hq2 hy
      go_wp2_with fail
      exact bodyPost_ret (v := .agg #[.slice B n d, .slice B' n d']) (by simp [results, Try.results98, go_sem, k0, k1]) rfl ⟨_, _, rfl, by have h1 := HD.out.1; rw [HK.out] at h1; exact h1, HD.out.2⟩

end Go.Proofs.Ytjpebcomecoheaa
