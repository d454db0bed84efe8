/-
  The draw of a map that often has turns.
-/
import Derived.Test.YteajaikgeephmaaDrawMs
import Derived.Test.YteajaikgeephmaaLawMap
namespace Go.Proofs.Yteajaikgeephmaa
open Go.RowKit
set_option linter.unusedVariables false

set_option maxRecDepth 20000 in
set_option maxHeartbeats 3200000 in
theorem drawMapTurns_any (w : World) (A : Option Addr) (n c : Nat) (bs : List Int) (h : RdB w A n bs) (hn : n ≤ 1048576) (hc : n ≤ c) :
    Calls Try.prog 52 #[.slice A n c] w fun e w' => ∃ A A' n n' c c' t f, e = .returned (.agg #[.slice A n c, .slice A' n' c']) ∧ Rd w' A n t ∧ Rd w' A' n' f ∧ n ≤ 12 ∧ n' ≤ 12 ∧ Below w.heap.size w w' := by
  obtain ⟨i0, hinf, hz0, hz1, hz2⟩ := info_parts info_int
  obtain ⟨W0, hW0, hx0, hb0, hs0⟩ := Box.local_ w 35 (.slice none 0 0) (.slice none 0 0)
  obtain ⟨x, hx⟩ : ∃ x, w.heap.size = x := ⟨_, rfl⟩
  have HRB : Hid (RdB W0 A n bs) := ⟨h.1, fun h0 => by
    obtain ⟨ad, e, hcell⟩ := h.2.1 h0
    exact ⟨ad, e, fun j hj => (hb0.cell (World.block_lt_of_cell? w _ (hcell j hj))).trans (hcell j hj)⟩, h.2.2⟩
  have HX0 : Hid (Box W0 x 35 (.slice none 0 0) (.slice none 0 0)) := by rw [← hx]; exact hx0
  have HB0 := Lib.hid hb0
  have HXE := Lib.hid hx
  rw [hx] at hs0
  have HS0 := Lib.hid hs0
  clear hx hx0 hb0 h hs0
  go_enter Try.func52, Try.ntmps52
  go_wp2_with fail
  rw [HXE.out]
  refine (open_reads W0 A n c bs HRB.out hn hc).mono ?_
  rintro e w1 ⟨rfl, r1, b1, s1⟩
  have HX1 := Lib.hid (HX0.out.below b1); have HB1 := Lib.hid (HB0.out.trans (b1.mono HB0.out.size)); have HR1 := Lib.hid r1
  clear r1 b1
  go_wp2_with fail
  refine (pick_reads w1 W0.heap.size 0 HR1.out (by omega) 3 (by omega) (by omega)).mono ?_
  rintro e w2 ⟨z, rfl, hz, r2, g2⟩
  have g2' : Gr W0.heap.size w1 w2 := g2
  have HX2 := Lib.hid (HX1.out.gr g2' (by have := HS0.out; omega))
  have HB2 : Hid (Below w.heap.size w w2) := HB1.out.trans (g2'.below (by have := HR1.out.lt; omega) |>.mono (by rw [HXE.out]; have := HS0.out; omega))
  have HR2 := Lib.hid r2
  clear r2 g2 g2'
  by_cases h0 : z = 0
  · subst h0
    go_wp2_with fail
    refine (pick_reads w2 W0.heap.size (0 + 1) HR2.out (by omega) 5 (by omega) (by omega)).mono ?_
    rintro e w3 ⟨q, rfl, hq, r3, g3⟩
    have g3' : Gr W0.heap.size w2 w3 := g3
    have HX3 := Lib.hid (HX2.out.gr g3' (by have := HS0.out; omega))
    have HB3 : Hid (Below w.heap.size w w3) := HB2.out.trans (g3'.below (by have := HR2.out.lt; omega) |>.mono (by rw [HXE.out]; have := HS0.out; omega))
    clear r3 g3 g3'
    obtain ⟨N, hN⟩ : ∃ N, 2 * (q + 1) = N := ⟨_, rfl⟩
    have hN12 : N ≤ 12 := by omega
    have e1 : (2 : Int) * (1 + (q : Int)) = (N : Int) := by omega
    have hN0 : ¬ ((N : Int) = 0) := by omega
    have hN0' : ((N : Int) == 0) = false := by simp; omega
    go_wp2_with fail
    go_loopw [5, 6] (fun v' i wr => ∃ (v : Value) (k : Nat) (ys : List Int), v = v' ∧ k ≤ N ∧ i = .int .i64 (k : Int) ∧ Hid (ys.length = k) ∧ Hid (wr.ownsRow w3.heap.size 3 1 v k (ints ys)) ∧ Hid (Below w3.heap.size w3 wr)) (fun _ i _ => N - (intOf i).toNat)
    case atStart => exact ⟨_, 0, [], rfl, Nat.zero_le _, rfl, rfl, Own.empty (Nat.le_refl _), (Below.refl _ _).alloc (Nat.le_refl _) _⟩
    case round =>
      obtain ⟨v, k, ys, rfl, hk, rfl, hl, ho, hb⟩ := hrel
      have hbs := hb.out.size
      by_cases hlt : k < N
      · obtain ⟨m, hm⟩ : ∃ m : Nat, (k + 1) % N = m := ⟨_, rfl⟩
        have hmN : m < N := by rw [← hm]; exact Nat.mod_lt _ (by omega)
        have ht : ((k : Int) + 1).tmod (N : Int) = (m : Int) := by rw [← hm]; rfl
        clear hm
        go_wp2_with (at_builtin; refine wpList_append_own _ rfl _ _ 23 rfl w3.heap.size 3 i0 (.int .i64 0) 1 8 Try.underlying23 hinf hz0 hz1 hz2 rfl (by decide) _ _ _ rfl (ho.out.alloc _) ⟨wr.heap.size, 0, none⟩ 1 1 [.int .i64 (m : Int)] rfl rfl (cell_one_new _ _ _) (by intro u hu; simp at hu; subst hu; rfl) (by unfold maxLen; omega) (by omega) (by simp; omega) ?_; intro v1 w1 hown1 hgrow1 _)
        have HO := Lib.hid hown1; have HGR := Lib.hid hgrow1; clear hown1 hgrow1
        go_wp2
        go_roundw
        case rel =>
          refine ⟨_, k + 1, ys ++ [(m : Int)], rfl, by omega, by go_num, by simp [Hid, hl.out], ?_, (hb.out.alloc hbs _).grown HGR.out (by simp; omega) (fun j hj => (ho.out.lt j hj).1)⟩
          have := HO.out
          rw [Hid, ints, List.map_append]
          exact this
        case measure => simp [intOf]; omega
      · obtain rfl : k = N := by omega
        have HO4 : Hid (Own wr w3.heap.size v ys) := by unfold Own; rw [hl.out]; exact ho.out
        obtain ⟨A2, c2, rfl, hrd, -⟩ := HO4.out.form' hl.out
        have HX4 := Lib.hid (HX3.out.below hb.out)
        have HB4 := Lib.hid (HB3.out.trans (hb.out.mono HB3.out.size))
        have HL4 := Lib.hid hl.out
        clear hl ho hb hrd
        go_wp2_with fail
        rename World => w4
        go_loopw [7, 8] (fun v' i wr => ∃ (v : Value) (k2 : Nat) (zs : List Int), v = v' ∧ k2 ≤ k ∧ i = .int .i64 (k2 : Int) ∧ Hid (zs.length = k2) ∧ Hid (wr.ownsRow w4.heap.size 3 1 v k2 (ints zs)) ∧ Hid (Below w4.heap.size w4 wr)) (fun _ i _ => k - (intOf i).toNat)
        case atStart => exact ⟨_, 0, [], rfl, Nat.zero_le _, rfl, rfl, Own.empty (Nat.le_refl _), (Below.refl _ _).alloc (Nat.le_refl _) _⟩
        case round =>
          obtain ⟨v, k2, zs, rfl, hk2, rfl, hl, ho, hb⟩ := hrel
          have hbs := hb.out.size
          by_cases hlt2 : k2 < k
          · obtain ⟨m, hm⟩ : ∃ m : Nat, (k2 + (1 + q)) % k = m := ⟨_, rfl⟩
            have hmN : m < k := by rw [← hm]; exact Nat.mod_lt _ (by omega)
            have ht : ((k2 : Int) + (1 + (q : Int))).tmod (k : Int) = (m : Int) := by rw [← hm]; rfl
            clear hm
            go_wp2_with (at_builtin; refine wpList_append_own _ rfl _ _ 23 rfl w4.heap.size 3 i0 (.int .i64 0) 1 8 Try.underlying23 hinf hz0 hz1 hz2 rfl (by decide) _ _ _ rfl (ho.out.alloc _) ⟨wr.heap.size, 0, none⟩ 1 1 [.int .i64 (m : Int)] rfl rfl (cell_one_new _ _ _) (by intro u hu; simp at hu; subst hu; rfl) (by unfold maxLen; omega) (by omega) (by simp; omega) ?_; intro v1 w1 hown1 hgrow1 _)
            have HO := Lib.hid hown1; have HGR := Lib.hid hgrow1; clear hown1 hgrow1
            go_wp2
            go_roundw
            case rel =>
              refine ⟨_, k2 + 1, zs ++ [(m : Int)], rfl, by omega, by go_num, by simp [Hid, hl.out], ?_, (hb.out.alloc hbs _).grown HGR.out (by simp; omega) (fun j hj => (ho.out.lt j hj).1)⟩
              have := HO.out
              rw [Hid, ints, List.map_append]
              exact this
            case measure => simp [intOf]; omega
          · obtain rfl : k2 = k := by omega
            have HO5 : Hid (Own wr w4.heap.size v zs) := by unfold Own; rw [hl.out]; exact ho.out
            obtain ⟨A3, c3, rfl, hrd, -⟩ := HO5.out.form' hl.out
            have hX5 := HX4.out.below hb.out
            have e4 := hX5.cell0; have e5 := hX5.cell1; have e6 := hX5.frozen 0; have e7 := hX5.frozen 1
            have hxl := HX3.out.lt
            have hxl4 := HX4.out.lt
            obtain ⟨g, rfl, hg, -, -⟩ := HO4.out.cellAt HL4.out (k := 0) (by omega)
            obtain ⟨g', rfl, hg', -, -⟩ := HO5.out.cellAt hl.out (k := 0) (by omega)
            obtain ⟨W', hW', k0, k1, q1, q2, q3⟩ := fin_draw (w := w) (c := c2) (c' := c3) hX5 (by rw [HXE.out]; exact Nat.le_refl _) ((HO4.out.below hb.out).rd HL4.out) hrd (fun ad e => by injection e with e; rw [← e]; show x < g; omega) (fun ad e => by injection e with e; rw [← e]; show x < g'; omega) (HB4.out.trans (hb.out.mono HB4.out.size))
            have HQ := Lib.hid (And.intro q1 (And.intro q2 q3)); clear q1 q2 q3 hX5 hrd ho hb hl
            go_wp2_with fail
            exact bodyPost_ret (v := .agg #[.slice (some ⟨g, 0, none⟩) k2 c2, .slice (some ⟨g', 0, none⟩) k2 c3]) (by simp [results, Try.results52, go_sem, k0, k1]) rfl ⟨_, _, _, _, _, _, _, _, rfl, HQ.out.1, HQ.out.2.1, hN12, hN12, HQ.out.2.2⟩
  · have hdz : ((z : Int) == 0) = false := by simp [h0]
    go_wp2_with fail
    refine (map_any w2 W0.heap.size (0 + 1) 4 HR2.out (by omega) (by omega) (by omega)).mono ?_
    rintro e w3 ⟨A2, A2', n2, n2', c2, c2', t, f, rfl, r1, r2, hl, hl', a1, a2, -, g⟩
    have hs0 := HS0.out
    have hlt2 := HR2.out.lt
    have hX3 := HX2.out.gr g (by omega)
    have e0 := hX3.cell0; have e1 := hX3.cell1; have e2 := hX3.frozen 0; have e3 := hX3.frozen 1
    have hB3 : Below w.heap.size w w3 := HB2.out.trans (g.below (by omega) |>.mono (by rw [HXE.out]; omega))
    obtain ⟨W', hW', k0, k1, q1, q2, q3⟩ := fin_draw (w := w) (c := c2) (c' := c2') hX3 (by rw [HXE.out]; exact Nat.le_refl _) r1 r2 (fun ad e => by have := a1 ad e; omega) (fun ad e => by have := a2 ad e; omega) hB3
    have HQ := Lib.hid (And.intro q1 (And.intro q2 q3)); clear hs0 hlt2 q1 q2 q3 g hX3 hB3 r1 r2 a1 a2
    go_wp2_with fail
    exact bodyPost_ret (v := .agg #[.slice A2 n2 c2, .slice A2' n2' c2']) (by simp [results, Try.results52, go_sem, k0, k1]) rfl ⟨_, _, _, _, _, _, _, _, rfl, HQ.out.1, HQ.out.2.1, hl, hl', HQ.out.2.2⟩

end Go.Proofs.Yteajaikgeephmaa
