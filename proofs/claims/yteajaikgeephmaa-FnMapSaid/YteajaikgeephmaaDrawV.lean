/-
  The draw of two lists that are often a map.
-/
import Derived.Test.YteajaikgeephmaaDrawMs
namespace Go.Proofs.Yteajaikgeephmaa
open Go.RowKit

theorem two_news (w : World) (a b : Value) (t : TypeId) (B : Nat) (hB : w.heap.size = B) : ∀ j u, ([a, b] : List Value)[j]? = some u → (w.alloc (.cells #[a, b] t)).cell? ((⟨B, 0, none⟩ : Addr).add j) = some u := by
  intro j u hu
  subst hB
  have hrow : (w.alloc (.cells #[a, b] t)).heap[w.heap.size]? = some (.cells #[a, b] t (0, 0)) := heap_alloc_new w _
  rw [show (⟨w.heap.size, 0, none⟩ : Addr).add j = ⟨w.heap.size, j, none⟩ from by unfold Addr.add; split <;> simp_all, cell_of_row _ _ j _ _ (0, 0) hrow]
  match j, hu with
  | 0, hu => simpa using hu
  | 1, hu => simpa using hu
  | j + 2, hu => simp at hu

set_option maxHeartbeats 1600000 in
theorem flip_any (n : Nat) (w : World) (hn : n ≤ 1000) :
    Calls Try.prog 72 #[.int .i64 n] w fun e w' => ∃ v ys, e = .returned v ∧ Own w' w.heap.size v ys ∧ ys.length = 2 * n ∧ Below w.heap.size w w' := by
  obtain ⟨i0, hinf, hz0, hz1, hz2⟩ := info_parts info_int
  go_enter Try.func72, Try.ntmps72
  go_wp2_with fail
  go_loopw [3, 4] (fun v' i wr => ∃ (v : Value) (k : Nat) (ys : List Int), v = v' ∧ k ≤ n ∧ i = .int .i64 (k : Int) ∧ Hid (ys.length = 2 * k) ∧ Hid (wr.ownsRow w.heap.size 3 1 v (2 * k) (ints ys)) ∧ Hid (Below w.heap.size w wr)) (fun _ i _ => n - (intOf i).toNat)
  case atStart => exact ⟨_, 0, [], rfl, Nat.zero_le _, rfl, rfl, Own.empty (Nat.le_refl _), (Below.refl _ _).alloc (Nat.le_refl _) _⟩
  case round =>
    obtain ⟨v, k, ys, rfl, hk, rfl, hl, ho, hb⟩ := hrel
    have hbs := hb.out.size
    by_cases hlt : k < n
    · have hnews := two_news wr (.int .i64 (2 * (k : Int) + 1)) (.int .i64 (2 * (k : Int))) 3 wr.heap.size rfl
      have HNW := Lib.hid hnews; clear hnews
      go_wp2_with (at_builtin; refine wpList_append_own _ rfl _ _ 23 rfl w.heap.size 3 i0 (.int .i64 0) 1 8 Try.underlying23 hinf hz0 hz1 hz2 rfl (by decide) _ _ _ rfl (ho.out.alloc _) ⟨wr.heap.size, 0, none⟩ 2 2 [.int .i64 (2 * (k : Int) + 1), .int .i64 (2 * (k : Int))] rfl rfl HNW.out (by intro u hu; simp at hu; rcases hu with rfl | rfl <;> rfl) (by unfold maxLen; omega) (by omega) (by simp; omega) ?_; intro v1 w1 hown1 hgrow1 _)
      have HO := Lib.hid hown1; have HGR := Lib.hid hgrow1; clear hown1 hgrow1
      go_wp2
      go_roundw
      case rel =>
        refine ⟨_, k + 1, ys ++ [2 * (k : Int) + 1, 2 * (k : Int)], rfl, by omega, by go_num, by simp [Hid, hl.out]; omega, ?_, (hb.out.alloc hbs _).grown HGR.out (by simp; omega) (fun j hj => (ho.out.lt j hj).1)⟩
        have := HO.out
        rw [Hid, ints, List.map_append, show 2 * (k + 1) = 2 * k + 2 by omega]
        exact this
      case measure => simp [intOf]; omega
    · have hkn : k = n := by omega
      subst hkn
      go_wp2
      go_ret
      refine ⟨_, ys, rfl, ?_, hl.out, hb.out⟩
      unfold Own
      rw [hl.out]
      exact ho.out

set_option maxHeartbeats 1600000 in
theorem drawMapValid_any (w : World) (A : Option Addr) (n c : Nat) (bs : List Int) (h : RdB w A n bs) (hn : n ≤ 1048576) (hc : n ≤ c) :
    Calls Try.prog 21 #[.slice A n c] w fun e w' => ∃ A A' n n' c c' t f, e = .returned (.agg #[.slice A n c, .slice A' n' c']) ∧ Rd w' A n t ∧ Rd w' A' n' f ∧ n ≤ 12 ∧ n' ≤ 12 ∧ Below w.heap.size w w' := by
  obtain ⟨W0, hW0, hx0, hb0, hs0⟩ := Box.local_ w 35 (.slice none 0 0) (.slice none 0 0)
  obtain ⟨x, hx⟩ : ∃ x, w.heap.size = x := ⟨_, rfl⟩
  have HRB : Hid (RdB W0 A n bs) := ⟨h.1, fun h0 => by
    obtain ⟨ad, e, hcell⟩ := h.2.1 h0
    exact ⟨ad, e, fun j hj => (hb0.cell (World.block_lt_of_cell? w _ (hcell j hj))).trans (hcell j hj)⟩, h.2.2⟩
  have HX0 : Hid (Box W0 x 35 (.slice none 0 0) (.slice none 0 0)) := by rw [← hx]; exact hx0
  have HB0 := Lib.hid hb0
  have HXE := Lib.hid hx
  rw [hx] at hs0
  have HS0 := Lib.hid hs0
  clear hx hx0 hb0 h hs0
  go_enter Try.func21, Try.ntmps21
  go_wp2_with fail
  rw [HXE.out]
  refine (open_reads W0 A n c bs HRB.out hn hc).mono ?_
  rintro e w1 ⟨rfl, r1, b1, s1⟩
  have HX1 := Lib.hid (HX0.out.below b1); have HB1 := Lib.hid (HB0.out.trans (b1.mono HB0.out.size)); have HR1 := Lib.hid r1
  clear r1 b1
  go_wp2_with fail
  refine (pick_reads w1 W0.heap.size 0 HR1.out (by omega) 6 (by omega) (by omega)).mono ?_
  rintro e w2 ⟨z, rfl, hz, r2, g2⟩
  have g2' : Gr W0.heap.size w1 w2 := g2
  have HX2 := Lib.hid (HX1.out.gr g2' (by have := HS0.out; omega))
  have HB2 : Hid (Below w.heap.size w w2) := HB1.out.trans (g2'.below (by have := HS0.out; omega) |>.mono (by rw [HXE.out]; have := HS0.out; omega))
  have HR2 := Lib.hid r2
  clear r2 g2 g2'
  by_cases hz0 : z = 0
  · subst hz0
    go_wp2_with fail
    refine (pick_reads w2 W0.heap.size (0 + 1) HR2.out (by omega) 4 (by omega) (by omega)).mono ?_
    rintro e w3 ⟨q, rfl, hq, r3, g3⟩
    have g3' : Gr W0.heap.size w2 w3 := g3
    have HX3 := Lib.hid (HX2.out.gr g3' (by have := HS0.out; omega))
    have HB3 : Hid (Below w.heap.size w w3) := HB2.out.trans (g3'.below (by have := HR2.out.lt; omega) |>.mono (by rw [HXE.out]; have := HS0.out; omega))
    have HR3 := Lib.hid r3
    clear r3 g3 g3'
    obtain ⟨H, hH⟩ : ∃ H, q + 1 = H := ⟨_, rfl⟩
    obtain ⟨N, hN⟩ : ∃ N, 2 * H = N := ⟨_, rfl⟩
    have hN12 : N ≤ 12 := by omega
    have e1 : (2 : Int) * (1 + (q : Int)) = (N : Int) := by omega
    have e2 : (N : Int).tdiv 2 = (H : Int) := by rw [Int.tdiv_eq_ediv_of_nonneg (by omega)]; omega
    have e3 : (N : Int) / 2 = (H : Int) := by omega
    go_wp2_with fail
    refine (perm_pl w3 W0.heap.size (0 + 1 + 1) N HR3.out (by omega) (by omega)).mono ?_
    rintro e w4 ⟨v, p, rfl, o, hpl, r4, -, -, g4⟩
    obtain ⟨A2, c2, rfl, hrd, -⟩ := o.form' hpl
    have HO4 := Lib.hid o; have HPL := Lib.hid hpl
    have HX4 := Lib.hid (HX3.out.gr g4 (by have := HS0.out; omega))
    have HB4 : Hid (Below w.heap.size w w4) := HB3.out.trans (g4.below (by have := HR3.out.lt; omega) |>.mono (by rw [HXE.out]; have := HS0.out; omega))
    have hs4 := g4.size
    clear r4 g4 o hpl hrd
    go_wp2_with fail
    refine (flip_any H w4 (by omega)).mono ?_
    rintro e w5 ⟨v, ys, rfl, o, hyl, b5⟩
    obtain ⟨A3, c3, rfl, hrd, -⟩ := o.form' (hyl.trans hN)
    have hX5 := HX4.out.below b5
    have e4 := hX5.cell0; have e5 := hX5.cell1; have e6 := hX5.frozen 0; have e7 := hX5.frozen 1
    have hxl := HX3.out.lt
    have hxl4 := HX4.out.lt
    obtain ⟨g, rfl, hg, -, -⟩ := HO4.out.cellAt HPL.out (k := 0) (by omega)
    obtain ⟨g', rfl, hg', -, -⟩ := o.cellAt (hyl.trans hN) (k := 0) (by omega)
    obtain ⟨W', hW', k0, k1, q1, q2, q3⟩ := fin_draw (w := w) (c := c2) (c' := c3) hX5 (by rw [HXE.out]; exact Nat.le_refl _) ((HO4.out.below b5).rd HPL.out) hrd (fun ad e => by injection e with e; rw [← e]; show x < g; omega) (fun ad e => by injection e with e; rw [← e]; show x < g'; omega) (HB4.out.trans (b5.mono HB4.out.size))
    have HQ := Lib.hid (And.intro q1 (And.intro q2 q3)); clear q1 q2 q3 hX5 hrd o b5 hyl
    go_wp2_with fail
    exact bodyPost_ret (v := .agg #[.slice (some ⟨g, 0, none⟩) N c2, .slice (some ⟨g', 0, none⟩) N c3]) (by simp [results, Try.results21, go_sem, k0, k1]) rfl ⟨_, _, _, _, _, _, _, _, rfl, HQ.out.1, HQ.out.2.1, hN12, hN12, HQ.out.2.2⟩
  · have hdz : ((z : Int) == 0) = false := by simp [hz0]
    go_wp2_with fail
    refine (map_any w2 W0.heap.size (0 + 1) 6 HR2.out (by omega) (by omega) (by omega)).mono ?_
    rintro e w3 ⟨A2, A2', n2, n2', c2, c2', t, f, rfl, r1, r2, hl, hl', a1, a2, -, g⟩
    have hs0 := HS0.out
    have hlt2 := HR2.out.lt
    have hX3 := HX2.out.gr g (by omega)
    have e0 := hX3.cell0; have e1 := hX3.cell1; have e2 := hX3.frozen 0; have e3 := hX3.frozen 1
    have hB3 : Below w.heap.size w w3 := HB2.out.trans (g.below (by omega) |>.mono (by rw [HXE.out]; omega))
    obtain ⟨W', hW', k0, k1, q1, q2, q3⟩ := fin_draw (w := w) (c := c2) (c' := c2') hX3 (by rw [HXE.out]; exact Nat.le_refl _) r1 r2 (fun ad e => by have := a1 ad e; omega) (fun ad e => by have := a2 ad e; omega) hB3
    have HQ := Lib.hid (And.intro q1 (And.intro q2 q3)); clear hs0 hlt2 q1 q2 q3 g hX3 hB3 r1 r2 a1 a2
    go_wp2_with fail
    exact bodyPost_ret (v := .agg #[.slice A2 n2 c2, .slice A2' n2' c2']) (by simp [results, Try.results21, go_sem, k0, k1]) rfl ⟨_, _, _, _, _, _, _, _, rfl, HQ.out.1, HQ.out.2.1, hl, hl', HQ.out.2.2⟩

end Go.Proofs.Yteajaikgeephmaa
