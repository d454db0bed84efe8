/-
  An element of an array of two ints, by value.
  The names of a form: the model's and the program's.
  The names of a form: the model's.
-/
import Derived.Test.YtakckkmhhedfpaaKit
import Derived.Laws.PanicsMore
import Derived.Test.YtakckkmhhedfpaaOrb
import Derived.Test.YtakckkmhhedfpaaRename
import Derived.Test.YtakckkmhhedfpaaRepeat
import Derived.Maps.AppendAt
import Derived.StillTailTactics
namespace Go.Proofs.Ytakckkmhhedfpaa
open Go.RowKit

theorem idx2_0 (y z : Int) (w : World) : (Instr.index 103 (.agg #[.int .i64 y, .int .i64 z]) (.int .i64 0)).run Try.prog w = .ok (.int .i64 y) w := by
  have h : Try.prog.underlying 103 = some (.array 2 3) := Try.underlying103
  simp [Instr.index, run_underlying h, part, go_sem]
theorem idx2_1 (y z : Int) (w : World) : (Instr.index 103 (.agg #[.int .i64 y, .int .i64 z]) (.int .i64 1)).run Try.prog w = .ok (.int .i64 z) w := by
  have h : Try.prog.underlying 103 = some (.array 2 3) := Try.underlying103
  simp [Instr.index, run_underlying h, part, go_sem]

end Go.Proofs.Ytakckkmhhedfpaa

namespace Go.Proofs.Ytakckkmhhedfpaa
open Go.RowKit

/-- After i of a dart's two neighbors. -/
def nameI (t f : List Int) (s : List Int × List Int) (d : Nat) : Nat → List Int × List Int
  | 0 => s
  | i + 1 => nameOne (nameI t f s d i) (if i = 0 then gn t d else gn f d)
theorem nameI_two (t f : List Int) (s : List Int × List Int) (d : Nat) : nameI t f s d 2 = nameTwo t f s d := by simp [nameI, nameTwo]
theorem nameOne_new {nm q : List Int} {x : Nat} (h : gi nm x = -1) : nameOne (nm, q) x = (nm.set x (q.length : Int), q ++ [(x : Int)]) := by rw [nameOne, if_pos h]
theorem nameOne_old {nm q : List Int} {x : Nat} (h : ¬ gi nm x = -1) : nameOne (nm, q) x = (nm, q) := by rw [nameOne, if_neg h]

/-- A row of one's own takes a number: it, and what becomes of another row. -/
theorem ne_some {v : Value} {g : Nat} (h : ∀ k, v.ownBlock = some k → k ≠ g) : v.ownBlock = none ∨ v.ownBlock ≠ some g := by
  cases hv : v.ownBlock with
  | none => exact .inl rfl
  | some k => exact .inr (fun e => by injection e with e; exact h k hv e)
theorem some_ne {v : Value} {g : Nat} {A : Nat × Nat} (h : ∀ k, v.ownBlock = some k → k ≠ g) : (Value.slice (some ⟨g, 0, none⟩) A.1 A.2).ownBlock = none ∨ (Value.slice (some ⟨g, 0, none⟩) A.1 A.2).ownBlock ≠ v.ownBlock := by
  refine .inr (fun e => ?_)
  exact h g e.symm rfl

theorem mapAt_far {w w' : World} {b g n c n' c' : Nat} {A A' : Option Addr} (h : MapAt w b A n c A' n' c') (hg : w.grownBy w' (some g)) (hne : b ≠ g) : MapAt w' b A n c A' n' c' :=
  h.same (hg.block b h.lt (by simp; omega))
set_option maxRecDepth 100000 in
set_option maxHeartbeats 3200000 in
theorem names_at (x : Nat) (A A' : Option Addr) (n c c' root : Nat) (t f : List Int) (w : World) (hx : MapAt w x A n c A' n c') (h : Rd w A n t) (h' : Rd w A' n f) (hm : IsMap t f) (hr : root < n) :
    Calls Try.prog 88 #[.pointer (some ⟨x, 0, none⟩), .int .i64 root] w fun e w' => ∃ v, e = .returned v ∧ Own w' w.heap.size v (namesL t f root) ∧ Below w.heap.size w w' := by
  obtain ⟨i0, hinf, hz0, hz1, hz2⟩ := info_parts info_int
  have hn1 : 1 ≤ n := by omega
  have hn12 : n ≤ 12 := by rw [← h.1]; exact hm.turn.2.1
  have HZ := Lib.hid (And.intro hz1 hz2)
  obtain ⟨W0, hW0⟩ : ∃ W0, w.alloc (.cells #[.int .i64 (-1)] 3) = W0 := ⟨_, rfl⟩
  have hb0 : Below w.heap.size w W0 := by rw [← hW0]; exact (Below.refl _ _).alloc (Nat.le_refl _) _
  have HCR : Hid (Rd W0 (some ⟨w.heap.size, 0, none⟩) 1 [-1]) := ⟨rfl, fun _ => ⟨_, rfl, fun j hj => by
    obtain rfl : j = 0 := by omega
    rw [← hW0]
    exact cell_one_new _ _ _ 0 _ rfl⟩⟩
  have hx0 := hx.below hb0
  have c0 := hx0.cell0
  have hxl := hx.lt
  have HX := Lib.hid hx0; have HB0 := Lib.hid hb0; have H := Lib.hid h; have H' := Lib.hid h'; have HM := Lib.hid hm; have Hl := Lib.hid h.1; have Hl' := Lib.hid h'.1; clear hx hx0 hb0 h h' hm
  go_enter Try.func88, Try.ntmps88
  go_wp2_with fail
  refine (repeat_perm (some ⟨w.heap.size, 0, none⟩) 1 n (-1) W0 HCR.out hn1 (by omega)).mono ?_
  rintro e w1 ⟨v1, rfl, o, b⟩
  obtain ⟨A1, c1, rfl, -, -⟩ := o.form' (List.length_replicate ..)
  obtain ⟨g, rfl, hg, hc1, hf1⟩ := o.cellAt (List.length_replicate ..) (k := root) hr
  have hsz := HB0.out.size
  have hgw : w.heap.size ≤ g := by omega
  have hxg : x ≠ g := by omega
  have hg1 := (o.lt g rfl).2
  obtain ⟨o1, hgr⟩ := o.stored (List.length_replicate ..) root 0
  obtain ⟨W1, hW1⟩ : ∃ W1, w1.setCell ⟨g, root, none⟩ (.int .i64 0) = W1 := ⟨_, rfl⟩
  rw [hW1] at o1 hgr
  have HXW := Lib.hid (mapAt_far (HX.out.below b) hgr hxg)
  have HBW : Hid (Below w.heap.size w W1) := (HB0.out.trans (b.mono hsz)).grown hgr (by have := b.size; omega) (fun k hk => by cases hk; omega)
  have HO1 := Lib.hid (o1.mono (lo' := w.heap.size) (by omega))
  have hgs : g < W1.heap.size := Nat.lt_of_lt_of_le hg1 hgr.size
  have hws1 : w.heap.size ≤ W1.heap.size := HBW.out.size
  have HQ0 : Hid (Own (W1.alloc (.cells #[.int .i64 (root : Int)] 3)) w.heap.size (.slice (some ⟨W1.heap.size, 0, none⟩) 1 1) [(root : Int)]) :=
    World.ownsRow_lit W1 #[.int .i64 (root : Int)] 1 hws1 (by unfold maxLen; omega) rfl
  have HNG : Hid (Naming t f root 0 ((List.replicate n (-1)).set root 0) [(root : Int)]) := by
    have := Naming.start (t := t) (f := f) (root := root) (by rw [Hl.out]; exact hr)
    rwa [Hl.out] at this
  clear o b o1 hgr hsz hg hg1
  go_wp2_with fail
  go_loopw [6, 7] (fun lv iv wr => ∃ (k : Nat) (nm q : List Int) (L c2 : Nat) (A2 : Option Addr), lv = .slice A2 L c2 ∧ iv = .int .i64 k ∧ k ≤ L ∧ L ≤ n ∧ Hid (q.length = L) ∧ Hid (Own wr w.heap.size (.slice (some ⟨g, 0, none⟩) n c1) nm) ∧ Hid (Own wr w.heap.size (.slice A2 L c2) q) ∧
      Hid (∀ j, (Value.slice A2 L c2).ownBlock = some j → j ≠ g ∧ j ≠ x) ∧ Hid (MapAt wr x A n c A' n c') ∧ Hid (Below w.heap.size w wr) ∧ Hid (Naming t f root k nm q)) (fun _ iv _ => n - (intOf iv).toNat)
  case atStart =>
    refine ⟨0, (List.replicate n (-1)).set root 0, [(root : Int)], 1, 1, some ⟨W1.heap.size, 0, none⟩, rfl, rfl, by omega, by omega, rfl, World.ownsRow.alloc HO1.out _, HQ0.out, ?_, ?_, ?_, HNG.out⟩
    · intro j hj
      have : j = W1.heap.size := by simpa [Value.ownBlock] using hj.symm
      exact ⟨by omega, by omega⟩
    · exact HXW.out.below ((Below.refl _ _).alloc (Nat.le_refl _) _)
    · exact HBW.out.alloc hws1 _
  case round =>
    obtain ⟨k, nm, q, L, c2, A2, rfl, rfl, hkL, hLn, hq, ho, hlo, hne, hbx, hb, hng⟩ := hrel
    clear HO1 HQ0 HXW HBW HNG
    by_cases hlt : k < L
    · obtain ⟨g2, rfl, -, hcq, -⟩ := hlo.out.cellAt hq.out hlt
      have hkq : k < q.length := by rw [hq.out]; exact hlt
      obtain ⟨d, hd⟩ : ∃ d, gn q k = d := ⟨_, rfl⟩
      have hdn : d < n := by have := hng.out.at_ hkq; rw [hd, Hl.out] at this; exact this
      have hqd : gi q k = (d : Int) := by rw [(hng.out.named.nat k hkq).1, hd]
      rw [hqd] at hcq
      obtain ⟨y, hy, hyn, hgy⟩ := (HM.out.turn.into Hl.out).nat (j := d) (by rw [Hl.out]; exact hdn)
      obtain ⟨z, hz, hzn, hgz⟩ := (HM.out.flip.into Hl'.out).nat (j := d) (by rw [Hl'.out]; exact hdn)
      obtain ⟨ad, rfl, hp1⟩ := (H.out.below hb.out).at_ hdn
      obtain ⟨ad', rfl, hp2⟩ := (H'.out.below hb.out).at_ hdn
      rw [hy] at hp1
      rw [hz] at hp2
      have e0 := hbx.out.cell0
      have e1 := hbx.out.cell1
      have HD := Lib.hid hd; have HGY := Lib.hid hgy; have HGZ := Lib.hid hgz; clear hd hqd hgy hgz hy hz
      go_wp2
      go_quiet (fail)
      obtain ⟨Wd, hWd⟩ : ∃ Wd, wr.drewN nq = Wd := ⟨_, rfl⟩
      rw [hWd]
      have HOd : Hid (Own Wd w.heap.size (.slice (some ⟨g, 0, none⟩) n c1) nm) := hWd ▸ ho.out.drewN nq
      have HLd : Hid (Own Wd w.heap.size (.slice (some ⟨g2, 0, none⟩) L c2) q) := hWd ▸ hlo.out.drewN nq
      have HXd : Hid (MapAt Wd x (some ad) n c (some ad') n c') := hWd ▸ hbx.out
      have HBd : Hid (Below w.heap.size w Wd) := hWd ▸ below_drewN hb.out nq
      clear hp1 hp2 e0 e1 hcq hWd
      go_wp2
      go_loopw [6, 48] (fun lv iv wr' => ∃ (wr : World) (i : Nat) (nm' q' : List Int) (L' c2' : Nat) (A2' : Option Addr), wr = wr' ∧ lv = .slice A2' L' c2' ∧ iv = .int .i64 i ∧ i ≤ 2 ∧ L' ≤ n ∧ Hid (q'.length = L') ∧ Hid (Own wr w.heap.size (.slice (some ⟨g, 0, none⟩) n c1) nm') ∧ Hid (Own wr w.heap.size (.slice A2' L' c2') q') ∧
          Hid (∀ j, (Value.slice A2' L' c2').ownBlock = some j → j ≠ g ∧ j ≠ x) ∧ Hid (MapAt wr x (some ad) n c (some ad') n c') ∧ Hid (Below w.heap.size w wr) ∧ Hid (g < wr.heap.size) ∧ Hid ((nm', q') = nameI t f (nm, q) d i) ∧ Hid (Named n nm' q')) (fun _ iv _ => 2 - (intOf iv).toNat)
      case atStart => exact ⟨_, 0, nm, q, L, c2, _, rfl, rfl, rfl, by omega, hLn, hq, HOd, HLd, hne, HXd, HBd, (HOd.out.lt g rfl).2, rfl, by have := hng.out.named; rw [Hl.out] at this; exact this⟩
      case round =>
        obtain ⟨wr', i, nm', q', L', c2', A2', rfl, rfl, rfl, hi, hLn', hq', ho', hlo', hne', hbx', hb', hgs', heq, hnd⟩ := hrel
        clear HOd HLd HXd HBd
        have hbs := hb'.out.size
        have hgs2 := hgs'.out
        have hxl2 : x < wr'.heap.size := hbx'.out.lt
        have hi0 := idx2_0 (y : Int) (z : Int) wr'
        have hi1 := idx2_1 (y : Int) (z : Int) wr'
        by_cases hi2 : i < 2
        · obtain ⟨v, hv⟩ : ∃ v, (if i = 0 then y else z) = v := ⟨_, rfl⟩
          have hvn : v < n := by rw [← hv]; split <;> assumption
          have HVV : Hid ((if i = 0 then gn t d else gn f d) = v) := by rw [Hid, HGY.out, HGZ.out]; exact hv
          obtain ⟨g', e, -, hcv, hfv⟩ := ho'.out.cellAt hnd.out.len hvn
          simp only [Option.some.injEq, Addr.mk.injEq, and_true] at e
          subst e
          have hnext : nameI t f (nm, q) d (i + 1) = nameOne (nm', q') v := by rw [nameI, ← heq.out, HVV.out]
          have HNX := Lib.hid hnext
          have hone := hnd.out.one hvn
          have HONE := Lib.hid hone
          clear hnext hone
          by_cases hnew : gi nm' v = -1
          · have hd1 : decide (gi nm' v < 0) = true := by rw [hnew]; rfl
            have hnw : nameOne (nm', q') v = (nm'.set v (L' : Int), q' ++ [(v : Int)]) := by rw [nameOne_new hnew, hq'.out]
            have hfew : L' + 1 ≤ n := by
              have := HONE.out.few
              rw [hnw] at this
              simp [hq'.out] at this
              exact this
            obtain ⟨o2, hgr⟩ := ho'.out.stored hnd.out.len v (L' : Int)
            have HST : Hid ((wr'.setCell ⟨g, v, none⟩ (.int .i64 (L' : Int))).ownsRow w.heap.size 3 1 (.slice A2' L' c2') L' (ints q')) := by
              have h1 := hlo'.out.grown hgr (ne_some (fun k hk => (hne'.out k hk).1))
              unfold Own at h1
              rwa [hq'.out] at h1
            have HB2 : Hid (Below w.heap.size w (wr'.setCell ⟨g, v, none⟩ (.int .i64 (L' : Int)))) := hb'.out.setCell hgw _
            have HX2 := Lib.hid (mapAt_far hbx'.out hgr hxg)
            have HO2 := Lib.hid o2
            have HNW := Lib.hid hnw
            have HQ1 : Hid (q'.length = L') := hq'
            have HNE := Lib.hid hnew
            clear o2 hgr hnw hnew
            rcases (show i = 0 ∨ i = 1 by omega) with rfl | rfl
            all_goals
              simp only [reduceIte, Nat.one_ne_zero, if_false] at hv
              obtain rfl := hv
              go_wp2_with (at_builtin; refine wpList_append_own_at _ rfl (.tmp 61) (.tmp 63) 33 rfl w.heap.size 3 i0 (.int .i64 0) 1 8 Try.underlying33 hinf hz0 hz1 hz2 rfl (by decide) _ _ _ rfl (HST.out.alloc _) ⟨wr'.heap.size, 0, none⟩ 1 1 [.int .i64 _] rfl rfl (cell_one_set _ _ _ _ _) (by intro u hu; simp at hu; subst hu; rfl) (by unfold maxLen; omega) (by omega) (by simp [World.setCell]; omega) ?_; intro v1 w3 hown1 hgrow1 _ hat1; obtain ⟨g4, c4, rfl⟩ := ownsRow_succ hown1; have HO3 := Lib.hid hown1; have HG3 := Lib.hid hgrow1; have HA3 := Lib.hid hat1; clear hown1 hgrow1 hat1)
              go_roundw
              case rel =>
                have hs3 := HG3.out.size
                simp [World.setCell] at hs3
                first
                  | refine ⟨_, 1, nm'.set y (L' : Int), q' ++ [(y : Int)], L' + 1, c4, _, rfl, rfl, rfl, by decide, hfew, ?_, ?_, ?_, ?_, ?_, ?_, ?_, ?_, ?_⟩
                  | refine ⟨_, 2, nm'.set z (L' : Int), q' ++ [(z : Int)], L' + 1, c4, _, rfl, rfl, rfl, by decide, hfew, ?_, ?_, ?_, ?_, ?_, ?_, ?_, ?_, ?_⟩
                rotate_left 7
                · exact (HNX.out.trans HNW.out).symm
                · have := HONE.out; rw [HNW.out] at this; exact this
                · simp [Hid, HQ1.out]
                · exact (World.ownsRow.alloc HO2.out _).kept HG3.out (.inr (fun e => (hne'.out g e.symm).1 rfl))
                · have := HO3.out
                  unfold Own
                  rw [Hid, List.length_append, HQ1.out, List.length_singleton]
                  simpa [ints] using this
                · intro j hj
                  have h4 := HA3.out
                  rw [hj] at h4
                  rcases h4 with h | h
                  · exact hne'.out j h.symm
                  · injection h with h
                    simp [World.setCell] at h
                    exact ⟨by omega, by omega⟩
                · exact HX2.out.same ((HG3.out.block x (by simp [World.setCell]; omega) (fun e => (hne'.out x e.symm).2 rfl)).trans (Below.heap_alloc _ _ x (by simp [World.setCell]; omega)))
                · exact (HB2.out.alloc (by simp [World.setCell]; omega) _).grown HG3.out (by simp [World.setCell]; omega) (fun k hk => (HST.out.lt k hk).1)
                · rw [Hid]; omega
              case measure => simp [intOf]
          · have hd1 : decide (gi nm' v < 0) = false := by
              rcases hnd.out.or hvn with h | ⟨a, _, _, h⟩
              · exact absurd h hnew
              · rw [h]; simp
            have hnw := nameOne_old (q := q') hnew
            have HNW := Lib.hid hnw; clear hnw hnew
            rcases (show i = 0 ∨ i = 1 by omega) with rfl | rfl
            all_goals
              simp only [reduceIte, Nat.one_ne_zero, if_false] at hv
              obtain rfl := hv
              go_wp2_with fail
              go_roundw
              case rel =>
                first
                  | exact ⟨_, 1, nm', q', L', c2', _, rfl, rfl, by go_num, by omega, hLn', hq', ho', hlo', hne', hbx', hb', hgs', (HNX.out.trans HNW.out).symm, hnd⟩
                  | exact ⟨_, 2, nm', q', L', c2', _, rfl, rfl, by go_num, by omega, hLn', hq', ho', hlo', hne', hbx', hb', hgs', (HNX.out.trans HNW.out).symm, hnd⟩
              case measure => simp [intOf]
        · have hi3 : i = 2 := by omega
          subst hi3
          have hnn := heq.out
          rw [nameI_two] at hnn
          have HNN := Lib.hid hnn; clear hnn
          go_wp2_with fail
          go_roundw
          case rel =>
            have hnx := hng.out.next HM.out.turn HM.out.flip HM.out.len hkq
            rw [HD.out, ← HNN.out] at hnx
            exact ⟨k + 1, nm', q', L', c2', _, rfl, by go_num, by have := hnx.le; rw [hq'.out] at this; exact this, hLn', hq', ho', hlo', hne', hbx', hb', hnx⟩
          case measure => simp [intOf]; omega
    · have hdone := hng.out.done HM.out (by rw [Hl.out]; exact hr) (by rw [hq.out]; omega)
      have HDN := Lib.hid hdone; clear hdone
      go_wp2_with fail
      go_ret
      exact ⟨_, rfl, by rw [HDN.out.1]; exact ho.out, hb.out⟩
theorem names_any (x : Nat) (A A' : Option Addr) (n c c' root : Nat) (t f : List Int) (w : World) (hx : Box2 w x A n c A' n c') (h : Rd w A n t) (h' : Rd w A' n f) (hm : IsMap t f) (hr : root < n) :
    Calls Try.prog 88 #[.pointer (some ⟨x, 0, none⟩), .int .i64 root] w fun e w' => ∃ v, e = .returned v ∧ Own w' w.heap.size v (namesL t f root) ∧ Below w.heap.size w w' :=
  names_at x A A' n c c' root t f w hx.at_ h h' hm hr

end Go.Proofs.Ytakckkmhhedfpaa

namespace Go.Proofs.Ytakckkmhhedfpaa
open Go.RowKit

set_option maxRecDepth 100000 in
set_option maxHeartbeats 3200000 in
theorem l2Names_any (A A' : Option Addr) (n c c' root : Nat) (t f : List Int) (w : World) (h : Rd w A n t) (h' : Rd w A' n f) (hm : IsMap t f) (hr : root < n) :
    Calls Try.prog 93 #[.agg #[.slice A n c, .slice A' n c'], .int .i64 root] w fun e w' => ∃ v, e = .returned v ∧ Own w' w.heap.size v (namesL t f root) ∧ Below w.heap.size w w' := by
  obtain ⟨i0, hinf, hz0, hz1, hz2⟩ := info_parts info_int
  have hn1 : 1 ≤ n := by omega
  have hn12 : n ≤ 12 := by rw [← h.1]; exact hm.turn.2.1
  have HZ := Lib.hid (And.intro hz1 hz2)
  obtain ⟨W0, hW0⟩ : ∃ W0, w.alloc (.cells #[.slice A n c, .slice A' n c'] 35) = W0 := ⟨_, rfl⟩
  have hb0 : Below w.heap.size w W0 := by rw [← hW0]; exact (Below.refl _ _).alloc (Nat.le_refl _) _
  have hz00 : W0.heap.size = w.heap.size + 1 := by rw [← hW0]; simp
  have hx0 : Box2 W0 w.heap.size A n c A' n c' := by rw [← hW0]; exact Box2.new w A n c A' n c'
  have c0 := hx0.cell0
  have HX := Lib.hid hx0; have HB0 := Lib.hid hb0; have H := Lib.hid h; have H' := Lib.hid h'; have HM := Lib.hid hm; have Hl := Lib.hid h.1; have Hl' := Lib.hid h'.1; have HZ0 := Lib.hid hz00; clear hx0 hb0 h h' hm hz00
  go_enter Try.func93, Try.ntmps93
  go_wp2_with (at_make; refine wpList_make_full _ rfl _ _ 33 rfl W0.heap.size 3 i0 (.int .i64 0) 1 Try.underlying33 hinf hz0 hz1 .i64 .i64 _ _ n rfl rfl rfl rfl (by rw [hz2]; omega) (by unfold maxLen; omega) (Nat.le_refl _) ?_; intro w1 hown1 hgrow1; have HO0 := Lib.hid (Own.made hown1); have HG0 := Lib.hid hgrow1; clear hown1 hgrow1)
  obtain ⟨x, hx⟩ : ∃ x, w.heap.size = x := ⟨_, rfl⟩
  obtain ⟨g, hg⟩ : ∃ g, W0.heap.size = g := ⟨_, rfl⟩
  have hgx : x < g := by rw [← hg, ← hx, HZ0.out]; omega
  have HO0' : Hid (Own w1 x (.slice (some ⟨g, 0, none⟩) n n) (List.replicate n 0)) := by have := HO0.out; rw [hg] at this; exact this.mono (by omega)
  have HXX : Hid (Box2 w1 x A n c A' n c') := by have := HX.out; rw [hx] at this; exact (HG0.out.block x this.lt (by simp)).trans this
  have HB1 : Hid (Below x w w1) := by have := HB0.out; rw [hx] at this; exact this.grown HG0.out (by omega) (fun k hk => by cases hk)
  have hgw : g < w1.heap.size := (HO0'.out.lt g rfl).2
  have hww : x ≤ w1.heap.size := by have := HB1.out.size; omega
  have HXI := Lib.hid hx; have HGI := Lib.hid hg
  rw [hx, hg]
  clear HO0 HX HB0 HG0 c0 hg hx
  go_loopw [6] (fun iv wr => ∃ (k : Nat) (zs : List Int), k ≤ n ∧ iv = .int .i64 k ∧ Hid (zs.length = n) ∧ Hid (Own wr x (.slice (some ⟨g, 0, none⟩) n n) zs) ∧ Hid (Box2 wr x A n c A' n c') ∧ Hid (Below x w wr) ∧ Hid (g < wr.heap.size) ∧ Hid (∀ j, j < k → gi zs j = -1)) (fun iv _ => n - (intOf iv).toNat)
  case atStart => exact ⟨0, _, Nat.zero_le _, rfl, by simp [Hid], HO0', HXX, HB1, hgw, fun j hj => absurd hj (by omega)⟩
  case round =>
    obtain ⟨k, zs, hk, rfl, hzl, ho, hbx, hb, hgs, hall⟩ := hrel
    clear HO0' HXX HB1
    by_cases hlt : k < n
    · obtain ⟨g', e, -, hcv, hfv⟩ := ho.out.cellAt hzl.out hlt
      simp only [Option.some.injEq, Addr.mk.injEq, and_true] at e
      subst e
      obtain ⟨o2, hgr⟩ := ho.out.stored hzl.out k (-1)
      have HO2 := Lib.hid o2; have HGR := Lib.hid hgr; clear o2 hgr
      go_wp2
      go_roundw
      case rel => exact ⟨k + 1, _, by omega, by go_num, by simpa [Hid] using hzl.out, HO2.out, box2_far hbx.out HGR.out (by omega), hb.out.setCell (by simp; omega) _, Nat.lt_of_lt_of_le hgs.out HGR.out.size, fun j hj => by
        rw [gi_set _ _ _ _ (by rw [hzl.out]; exact hlt)]
        by_cases e : j = k
        · rw [if_pos e]
        · rw [if_neg e]; exact hall.out j (by omega)⟩
      case measure => simp [intOf]; omega
    · have hzr : zs = List.replicate n (-1) := eq_of_gi (by rw [hzl.out]; simp) (fun j hj => by rw [hzl.out] at hj; rw [hall.out j (by omega), gi_replicate hj])
      obtain rfl := hzr
      obtain ⟨g', e, -, hcv, hfv⟩ := ho.out.cellAt hzl.out hr
      simp only [Option.some.injEq, Addr.mk.injEq, and_true] at e
      subst e
      obtain ⟨o1, hgr⟩ := ho.out.stored hzl.out root 0
      obtain ⟨W1, hW1⟩ : ∃ W1, wr.setCell ⟨g, root, none⟩ (.int .i64 0) = W1 := ⟨_, rfl⟩
      rw [hW1] at o1 hgr
      have HXW := Lib.hid (box2_far hbx.out hgr (by omega))
      have HBW : Hid (Below x w W1) := hW1 ▸ hb.out.setCell (by simp; omega) _
      have HO1 := Lib.hid o1
      have hgs1 : g < W1.heap.size := Nat.lt_of_lt_of_le hgs.out hgr.size
      have hws1 : x ≤ W1.heap.size := by omega
      have HQ0 : Hid (Own (W1.alloc (.cells #[.int .i64 (root : Int)] 3)) x (.slice (some ⟨W1.heap.size, 0, none⟩) 1 1) [(root : Int)]) :=
        World.ownsRow_lit W1 #[.int .i64 (root : Int)] 1 hws1 (by unfold maxLen; omega) rfl
      have HNG : Hid (Naming t f root 0 ((List.replicate n (-1)).set root 0) [(root : Int)]) := by
        have := Naming.start (t := t) (f := f) (root := root) (by rw [Hl.out]; exact hr)
        rwa [Hl.out] at this
      clear o1 hgr hbx hb hgs hall ho
      go_wp2_with fail
      go_loopw [7, 8] (fun lv iv wr => ∃ (k : Nat) (nm q : List Int) (L c2 : Nat) (A2 : Option Addr), lv = .slice A2 L c2 ∧ iv = .int .i64 k ∧ k ≤ L ∧ L ≤ n ∧ Hid (q.length = L) ∧ Hid (Own wr x (.slice (some ⟨g, 0, none⟩) n n) nm) ∧ Hid (Own wr x (.slice A2 L c2) q) ∧
          Hid (∀ j, (Value.slice A2 L c2).ownBlock = some j → j ≠ g ∧ j ≠ x) ∧ Hid (Box2 wr x A n c A' n c') ∧ Hid (Below x w wr) ∧ Hid (g < wr.heap.size) ∧ Hid (Naming t f root k nm q)) (fun _ iv _ => n - (intOf iv).toNat)
      case atStart =>
        refine ⟨0, (List.replicate n (-1)).set root 0, [(root : Int)], 1, 1, some ⟨W1.heap.size, 0, none⟩, rfl, rfl, by omega, by omega, rfl, World.ownsRow.alloc HO1.out _, HQ0.out, ?_, ?_, ?_, ?_, HNG.out⟩
        · intro j hj
          have : j = W1.heap.size := by simpa [Value.ownBlock] using hj.symm
          exact ⟨by omega, by omega⟩
        · exact HXW.out.below ((Below.refl _ _).alloc (Nat.le_refl _) _)
        · exact HBW.out.alloc hws1 _
        · simp [Hid]; omega
      case round =>
        obtain ⟨k, nm, q, L, c2, A2, rfl, rfl, hkL, hLn, hq, ho, hlo, hne, hbx, hb, hgr, hng⟩ := hrel
        clear HO1 HQ0 HXW HBW HNG
        by_cases hlt : k < L
        · obtain ⟨g2, rfl, -, hcq, -⟩ := hlo.out.cellAt hq.out hlt
          have hkq : k < q.length := by rw [hq.out]; exact hlt
          obtain ⟨d, hd⟩ : ∃ d, gn q k = d := ⟨_, rfl⟩
          have hdn : d < n := by have := hng.out.at_ hkq; rw [hd, Hl.out] at this; exact this
          have hqd : gi q k = (d : Int) := by rw [(hng.out.named.nat k hkq).1, hd]
          rw [hqd] at hcq
          obtain ⟨y, hy, hyn, hgy⟩ := (HM.out.turn.into Hl.out).nat (j := d) (by rw [Hl.out]; exact hdn)
          obtain ⟨z, hz, hzn, hgz⟩ := (HM.out.flip.into Hl'.out).nat (j := d) (by rw [Hl'.out]; exact hdn)
          have hbl : Below w.heap.size w wr := by rw [HXI.out]; exact hb.out
          obtain ⟨ad, rfl, hp1⟩ := (H.out.below hbl).at_ hdn
          obtain ⟨ad', rfl, hp2⟩ := (H'.out.below hbl).at_ hdn
          rw [hy] at hp1
          rw [hz] at hp2
          have e0 := hbx.out.cell0
          have e1 := hbx.out.cell1
          have HD := Lib.hid hd; have HGY := Lib.hid hgy; have HGZ := Lib.hid hgz; clear hd hqd hgy hgz hy hz hbl
          obtain ⟨Wd, hWd⟩ : ∃ Wd, wr.drew = Wd := ⟨_, rfl⟩
          have HOd : Hid (Own Wd x (.slice (some ⟨g, 0, none⟩) n n) nm) := hWd ▸ ho.out.drewN 1
          have HLd : Hid (Own Wd x (.slice (some ⟨g2, 0, none⟩) L c2) q) := hWd ▸ hlo.out.drewN 1
          have HXd : Hid (Box2 Wd x (some ad) n c (some ad') n c') := hWd ▸ hbx.out
          have HBd : Hid (Below x w Wd) := hWd ▸ below_drewN hb.out 1
          have hgd : g < Wd.heap.size := by rw [← hWd]; exact hgr.out
          have hxd : x < Wd.heap.size := by omega
          have hg2d : g2 < Wd.heap.size := (HLd.out.lt g2 rfl).2
          have HWD := Lib.hid hWd; clear hWd
          go_wp2
          go_still_tail 16, (by kernel_rfl)
          change wpList _ _ _ _ _ wr.drew
          rw [HWD.out]
          clear hp1 hp2 e0 e1 hcq
          have HNR : Hid (Own (Wd.alloc (.cells #[.int .i64 (y : Int), .int .i64 (z : Int)] 3)) x (.slice (some ⟨Wd.heap.size, 0, none⟩) 2 2) [(y : Int), (z : Int)]) :=
            World.ownsRow_lit Wd #[.int .i64 (y : Int), .int .i64 (z : Int)] 2 (by omega) (by unfold maxLen; omega) rfl
          obtain ⟨g3, hg3⟩ : ∃ g3, Wd.heap.size = g3 := ⟨_, rfl⟩
          rw [hg3] at HNR hgd hxd hg2d
          have HG3E := Lib.hid hg3
          go_wp2_with fail
          go_loopw [7, 10] (fun lv iv wr' => ∃ (wr : World) (i : Nat) (nm' q' : List Int) (L' c2' : Nat) (A2' : Option Addr), wr = wr' ∧ lv = .slice A2' L' c2' ∧ iv = .int .i64 i ∧ i ≤ 2 ∧ L' ≤ n ∧ Hid (q'.length = L') ∧ Hid (Own wr x (.slice (some ⟨g, 0, none⟩) n n) nm') ∧ Hid (Own wr x (.slice A2' L' c2') q') ∧
              Hid (∀ j, (Value.slice A2' L' c2').ownBlock = some j → j ≠ g ∧ j ≠ x ∧ j ≠ g3) ∧ Hid (Box2 wr x (some ad) n c (some ad') n c') ∧ Hid (Below x w wr) ∧ Hid (g3 < wr.heap.size) ∧ Hid ((nm', q') = nameI t f (nm, q) d i) ∧ Hid (Named n nm' q') ∧ Hid (Own wr x (.slice (some ⟨g3, 0, none⟩) 2 2) [(y : Int), (z : Int)])) (fun _ iv _ => 2 - (intOf iv).toNat)
          case atStart =>
            refine ⟨_, 0, nm, q, L, c2, some ⟨g2, 0, none⟩, rfl, rfl, rfl, by omega, hLn, hq, World.ownsRow.alloc HOd.out _, World.ownsRow.alloc HLd.out _, ?_, ?_, ?_, ?_, rfl, by have := hng.out.named; rw [Hl.out] at this; exact this, HNR.out⟩
            · intro j hj
              have h1 := hne.out j hj
              have : j = g2 := by simpa [Value.ownBlock] using hj.symm
              exact ⟨h1.1, h1.2, by omega⟩
            · exact HXd.out.below ((Below.refl _ _).alloc (Nat.le_refl _) _)
            · exact HBd.out.alloc (by omega) _
            · simp [Hid]; omega
          case round =>
            obtain ⟨wr', i, nm', q', L', c2', A2', rfl, rfl, rfl, hi, hLn', hq', ho', hlo', hne', hbx', hb', hgs', heq, hnd, hnr⟩ := hrel
            clear HOd HLd HXd HBd HNR
            have hgs2 := hgs'.out
            by_cases hi2 : i < 2
            · obtain ⟨v, hv⟩ : ∃ v, (if i = 0 then y else z) = v := ⟨_, rfl⟩
              have hvn : v < n := by rw [← hv]; split <;> assumption
              have HVV : Hid ((if i = 0 then gn t d else gn f d) = v) := by rw [Hid, HGY.out, HGZ.out]; exact hv
              have hgiv : gi [(y : Int), (z : Int)] i = (v : Int) := by
                rcases (show i = 0 ∨ i = 1 by omega) with rfl | rfl
                · simp at hv; subst hv; rfl
                · simp at hv; subst hv; rfl
              obtain ⟨g5, e5, -, hcn, -⟩ := hnr.out.cellAt rfl hi2
              obtain ⟨g', e, -, hcv, hfv⟩ := ho'.out.cellAt hnd.out.len hvn
              simp only [Option.some.injEq, Addr.mk.injEq, and_true] at e e5
              subst e e5
              rw [hgiv] at hcn
              have hnext : nameI t f (nm, q) d (i + 1) = nameOne (nm', q') v := by rw [nameI, ← heq.out, HVV.out]
              have HNX := Lib.hid hnext
              have HONE := Lib.hid (hnd.out.one hvn)
              clear hnext hv
              by_cases hnew : gi nm' v = -1
              · have hd1 : decide (gi nm' v < 0) = true := by rw [hnew]; rfl
                have hnw : nameOne (nm', q') v = (nm'.set v (L' : Int), q' ++ [(v : Int)]) := by rw [nameOne_new hnew, hq'.out]
                have hfew : L' + 1 ≤ n := by
                  have := HONE.out.few
                  rw [hnw] at this
                  simp [hq'.out] at this
                  exact this
                obtain ⟨o2, hgr⟩ := ho'.out.stored hnd.out.len v (L' : Int)
                have HST : Hid ((wr'.setCell ⟨g, v, none⟩ (.int .i64 (L' : Int))).ownsRow x 3 1 (.slice A2' L' c2') L' (ints q')) := by
                  have h1 := hlo'.out.grown hgr (ne_some (fun k hk => (hne'.out k hk).1))
                  unfold Own at h1
                  rwa [hq'.out] at h1
                have hnr2 := hnr.out.grown hgr (.inr (fun e => by simp [Value.ownBlock] at e; omega))
                obtain ⟨g5, e5, -, hcn2, -⟩ := hnr2.cellAt rfl hi2
                simp only [Option.some.injEq, Addr.mk.injEq, and_true] at e5
                subst e5
                rw [hgiv] at hcn2
                have HNR2 := Lib.hid hnr2
                have HB2 : Hid (Below x w (wr'.setCell ⟨g, v, none⟩ (.int .i64 (L' : Int)))) := hb'.out.setCell (by simp; omega) _
                have HX2 := Lib.hid (box2_far hbx'.out hgr (by omega))
                have HO2 := Lib.hid o2
                have HNW := Lib.hid hnw
                have HQ1 : Hid (q'.length = L') := hq'
                have HGV := Lib.hid hgiv
                clear o2 hgr hnw hnew hnr2 hgiv
                go_wp2_with (at_builtin; refine wpList_append_own_at _ rfl (.tmp 72) (.tmp 77) 33 rfl x 3 i0 (.int .i64 0) 1 8 Try.underlying33 hinf hz0 hz1 hz2 rfl (by decide) _ _ _ rfl (HST.out.alloc _) ⟨wr'.heap.size, 0, none⟩ 1 1 [.int .i64 (v : Int)] rfl rfl (cell_one_set _ _ _ _ _) (by intro u hu; simp at hu; subst hu; rfl) (by unfold maxLen; omega) (by omega) (by simp [World.setCell]; omega) ?_; intro v1 w3 hown1 hgrow1 _ hat1; obtain ⟨g4, c4, rfl⟩ := ownsRow_succ hown1; have HO3 := Lib.hid hown1; have HG3 := Lib.hid hgrow1; have HA3 := Lib.hid hat1; clear hown1 hgrow1 hat1)
                go_roundw
                case rel =>
                  have hs3 := HG3.out.size
                  simp [World.setCell] at hs3
                  refine ⟨_, i + 1, nm'.set v (L' : Int), q' ++ [(v : Int)], L' + 1, c4, _, rfl, rfl, by go_num, by omega, hfew, ?_, ?_, ?_, ?_, ?_, ?_, ?_, ?_, ?_, ?_⟩
                  rotate_left 7
                  · exact (HNX.out.trans HNW.out).symm
                  · have := HONE.out; rw [HNW.out] at this; exact this
                  · exact (World.ownsRow.alloc HNR2.out _).kept HG3.out (.inr (fun e => (hne'.out g3 e.symm).2.2 rfl))
                  · simp [Hid, HQ1.out]
                  · exact (World.ownsRow.alloc HO2.out _).kept HG3.out (.inr (fun e => (hne'.out g e.symm).1 rfl))
                  · have := HO3.out
                    unfold Own
                    rw [Hid, List.length_append, HQ1.out, List.length_singleton]
                    simpa [ints] using this
                  · intro j hj
                    have h4 := HA3.out
                    rw [hj] at h4
                    rcases h4 with h | h
                    · exact hne'.out j h.symm
                    · injection h with h
                      simp [World.setCell] at h
                      exact ⟨by omega, by omega, by omega⟩
                  · exact (HG3.out.block x (by simp [World.setCell]; omega) (fun e => (hne'.out x e.symm).2.1 rfl)).trans ((Below.heap_alloc _ _ x (by simp [World.setCell]; omega)).trans HX2.out)
                  · exact (HB2.out.alloc (by simp [World.setCell]; omega) _).grown HG3.out (by simp [World.setCell]; omega) (fun k hk => (HST.out.lt k hk).1)
                  · rw [Hid]; omega
                case measure => simp [intOf]; omega
              · have hd1 : decide (gi nm' v < 0) = false := by
                  rcases hnd.out.or hvn with h | ⟨a, _, _, h⟩
                  · exact absurd h hnew
                  · rw [h]; simp
                have HNW := Lib.hid (nameOne_old (q := q') hnew); clear hnew hgiv
                go_wp2_with fail
                go_roundw
                case rel => exact ⟨_, i + 1, nm', q', L', c2', _, rfl, rfl, by go_num, by omega, hLn', hq', ho', hlo', hne', hbx', hb', hgs', (HNX.out.trans HNW.out).symm, hnd, hnr⟩
                case measure => simp [intOf]; omega
            · have hi3 : i = 2 := by omega
              subst hi3
              have hnn := heq.out
              rw [nameI_two] at hnn
              have HNN := Lib.hid hnn; clear hnn
              go_wp2_with fail
              go_roundw
              case rel =>
                have hnx := hng.out.next HM.out.turn HM.out.flip HM.out.len hkq
                rw [HD.out, ← HNN.out] at hnx
                exact ⟨k + 1, nm', q', L', c2', _, rfl, by go_num, by have := hnx.le; rw [hq'.out] at this; exact this, hLn', hq', ho', hlo', fun j hj => ⟨(hne'.out j hj).1, (hne'.out j hj).2.1⟩, hbx', hb', Nat.lt_trans hgd hgs', hnx⟩
              case measure => simp [intOf]; omega
        · have hdone := hng.out.done HM.out (by rw [Hl.out]; exact hr) (by rw [hq.out]; omega)
          have HDN := Lib.hid hdone; clear hdone
          go_wp2_with fail
          go_ret
          have hb2 := hb.out
          have ho2 := ho.out
          rw [← HXI.out] at hb2 ho2
          exact ⟨_, rfl, by rw [HDN.out.1]; exact ho2, hb2⟩

end Go.Proofs.Ytakckkmhhedfpaa
