/-
  Draws of partitions.
-/
import Derived.Test.YtkbdbkoeahihiaaDraw
import Derived.Test.YtkbdbkoeahihiaaPtA
namespace Go.Proofs.Ytkbdbkoeahihiaa
open Go.RowKit
attribute [local go_sem] Oper.semAt_some

theorem ptsOf_row : ∀ n : Nat, n < 8 → 1 ≤ n → 1 ≤ (ptsOf 7 n n).length ∧ (ptsOf 7 n n).length ≤ 15 ∧ ∀ xs ∈ ptsOf 7 n n, 1 ≤ xs.length ∧ xs.length ≤ 7 ∧ 0 ≤ gi xs 0 ∧ gi xs 0 ≤ 7 := by decide +kernel

set_option maxRecDepth 100000 in
set_option maxHeartbeats 1600000 in
theorem parts_reads (w : World) (rb q n : Nat) (hr : Reads w rb q) (hq : q ≤ 1000) (hn1 : 1 ≤ n) (hn : n ≤ 7) :
    Calls Try.prog 35 #[.pointer (some ⟨rb, 0, none⟩), .int .i64 n] w fun e w' => ∃ v ys, e = .returned v ∧ Own w' w.heap.size v ys ∧ ys.length ≤ 8 ∧ Gr rb w w' ∧ ∃ q', q' ≤ q + 3 ∧ Reads w' rb q' := by
  obtain ⟨i0, hinf, hz0, hz1, hz2⟩ := info_parts info_int
  have hlt0 := hr.lt
  have HR0 := Lib.hid hr
  obtain ⟨l1, l15, lrow⟩ := ptsOf_row n (by omega) hn1
  have HROW := Lib.hid lrow
  clear hr lrow
  go_enter Try.func35, Try.ntmps35
  go_wp2_with fail
  refine (l5All_any n w hn).mono ?_
  rintro e w1 ⟨g, m, cc, rfl, hm, os, b⟩
  rw [hm] at l1 l15
  have hs1 := b.size
  have HB1 : Hid (Gr rb w w1) := (Gr.refl rb w).of_below b
  have HR1 := Lib.hid (HR0.out.below (b.mono (by omega)))
  have HOS := Lib.hid os; have HM := Lib.hid hm
  have HGB : Hid (w.heap.size ≤ g ∧ g < w1.heap.size) := by
    obtain ⟨vs, _, ho, _⟩ := os
    exact ho.lt g rfl
  clear b os hm HR0
  go_wp2_with fail
  refine (pick_reads w1 rb q HR1.out (by omega) (m : Int) (by omega) (by omega)).mono ?_
  rintro e w2 ⟨x, rfl, hx, r2, g2⟩
  have hs2 := g2.size
  have HB2 : Hid (Gr rb w w2) := HB1.out.trans g2
  have HR2 := Lib.hid r2
  have hxm : x < m := by omega
  have hos2 := HOS.out.fix (fun k hk => by cases hk; exact HGB.out.2) (Fix.grown g2 (Nat.le_refl _) (fun k hk => by cases hk; exact .inl hlt0))
  obtain ⟨Ak, nk, ck, hck, hnk, hok, hnm⟩ := hos2.at_ HM.out hxm
  have hmem : (ptsOf 7 n n).getD x [] ∈ ptsOf 7 n n := by
    rw [List.getD_eq_getElem?_getD, List.getElem?_eq_getElem (by rw [HM.out]; exact hxm)]; exact List.getElem_mem _
  obtain ⟨b1, b7, z1, z2⟩ := HROW.out _ hmem
  obtain ⟨row, hrw⟩ : ∃ row, (ptsOf 7 n n).getD x [] = row := ⟨_, rfl⟩
  rw [hrw] at hnk hok b1 b7 z1 z2
  rw [hnk] at b1 b7
  have HOK := Lib.hid hok; have HNK := Lib.hid hnk
  clear r2 g2 hos2 hok hnk hmem hrw
  go_wp2_with fail
  refine (l2Copy_any Ak nk ck row w2 (HOK.out.rd HNK.out) b1 (by omega)).mono ?_
  rintro e w3 ⟨v, rfl, o, b⟩
  have hs3 := b.size
  have HB3 : Hid (Gr rb w w3) := HB2.out.of_below b
  have HR3 := Lib.hid (HR2.out.below (b.mono (by omega)))
  obtain ⟨A, c, rfl, -, -⟩ := o.form' HNK.out
  have HO3 : Hid (Own w3 w.heap.size (.slice A nk c) row) := o.mono (by omega)
  clear o b HR2 HOK
  go_wp2_with fail
  refine (pick_reads w3 rb (q + 1) HR3.out (by omega) 40 (by omega) (by omega)).mono ?_
  rintro e w4 ⟨z, rfl, hz, r4, g4⟩
  have hs4 := g4.size
  have HO4 : Hid (Own w4 w.heap.size (.slice A nk c) row) := HO3.out.gr g4 hlt0
  have HB4 : Hid (Gr rb w w4) := HB3.out.trans g4
  have HR4 := Lib.hid r4
  clear r4 g4 HR3
  by_cases hz0' : z = 0
  · subst hz0'
    go_wp2_with fail
    obtain ⟨W5, hW5⟩ : ∃ W5, w4.alloc (.cells #[.int .i64 0, .int .i64 (-1), .int .i64 7] 3) = W5 := ⟨_, rfl⟩
    have hlit : W5.heap[w4.heap.size]? = some (.cells #[.int .i64 0, .int .i64 (-1), .int .i64 7] 3 (0, 0)) := by rw [← hW5]; exact heap_alloc_new w4 _
    have ha : Below w4.heap.size w4 W5 := by rw [← hW5]; exact (Below.refl _ _).alloc (Nat.le_refl _) _
    have hs5 := ha.size
    have hr5 : Reads W5 rb (q + 1 + 1) := HR4.out.below (ha.mono (by omega))
    have ho5 : Own W5 w.heap.size (.slice A nk c) row := HO4.out.below ha
    have hb5 : Gr rb w W5 := HB4.out.of_below ha
    rw [hW5]
    clear hW5
    refine (pick_reads W5 rb (q + 1 + 1) hr5 (by omega) 3 (by omega) (by omega)).mono ?_
    rintro e w6 ⟨y, rfl, hy, r6, g6⟩
    have HR6 := Lib.hid r6; clear r6
    have hl6 : w6.heap[w4.heap.size]? = some (.cells #[.int .i64 0, .int .i64 (-1), .int .i64 7] 3 (0, 0)) := (g6.block _ (Array.getElem?_eq_some_iff.1 hlit).1 (by intro e; injection e with e; omega)).trans hlit
    have ho6 : Own w6 w.heap.size (.slice A nk c) row := ho5.gr g6 hlt0
    have hb6 : Gr rb w w6 := hb5.trans g6
    obtain ⟨g', rfl, hgl, hcx, hfx⟩ := ho6.cellAt HNK.out (k := 0) (by omega)
    have hy3 : y < 3 := by omega
    obtain ⟨u, hu⟩ : ∃ u : Int, w6.cell? ⟨w4.heap.size, y, none⟩ = some (.int .i64 u) := by
      rw [cell_of_row w6 _ y _ _ (0, 0) hl6]
      rcases (show y = 0 ∨ y = 1 ∨ y = 2 by omega) with rfl | rfl | rfl
      · exact ⟨0, rfl⟩
      · exact ⟨-1, rfl⟩
      · exact ⟨7, rfl⟩
    have hst := ho6.stored HNK.out 0 u
    have HST := Lib.hid hst; have HB6 := Lib.hid hb6
    clear hst hb6 ho6 ho5 hl6 hlit hr5 hb5
    go_wp2
    go_ret
    refine ⟨_, _, rfl, HST.out.1, by rw [List.length_set, HNK.out]; omega, HB6.out.own (grown_set _ _ _ _) (fun j hj => by injection hj with hj; omega), _, ?_, HR6.out.below ((Below.refl _ _).setCell (p := ⟨g', 0, none⟩) (by show rb + 1 ≤ g'; omega) _)⟩
    omega
  by_cases hz1' : z = 1
  · subst hz1'
    obtain ⟨g', rfl, hgl, hcx, hfx⟩ := HO4.out.cellAt HNK.out (k := 0) (by omega)
    obtain ⟨y, hy⟩ : ∃ y, gi row 0 = y := ⟨_, rfl⟩
    rw [hy] at hcx z1 z2
    have HOW : Hid (w4.ownsRow w.heap.size 3 1 (.slice (some ⟨g', 0, none⟩) nk c) nk (ints row)) := by have h := HO4.out; unfold Own at h; rwa [HNK.out] at h
    go_wp2_with (at_builtin; refine wpList_append_own _ rfl _ _ 23 rfl w.heap.size 3 i0 (.int .i64 0) 1 8 Try.underlying23 hinf hz0 hz1 hz2 rfl (by decide) _ _ _ rfl (HOW.out.alloc _) ⟨w4.heap.size, 0, none⟩ 1 1 [.int .i64 (y + 1)] rfl rfl (cell_one_new _ _ _) (by intro u hu; simp at hu; subst hu; rfl) (by unfold maxLen; omega) (by omega) (by simp; omega) ?_; intro v1 w5 hown1 hgrow1 _)
    have HO5 : Hid (Own w5 w.heap.size v1 (row ++ [y + 1])) := by
      rw [Hid, Own, List.length_append, HNK.out, ints, List.map_append]
      exact hown1
    have HR5 : Hid (Reads w5 rb (q + 1 + 1)) := by
      have hlow : ∀ j, (Value.slice (some ⟨g', 0, none⟩) nk c).ownBlock = some j → rb + 1 ≤ j := fun j hj => by have := (HOW.out.lt j hj).1; omega
      exact HR4.out.below (((Below.refl (rb + 1) w4).alloc (by omega) _).grown hgrow1 (by simp; omega) hlow)
    have HB5 : Hid (Gr rb w w5) := (HB4.out.alloc _).own hgrow1 (fun j hj => (HOW.out.lt j hj).1)
    clear hown1 hgrow1
    go_wp2
    go_ret
    exact ⟨_, _, rfl, HO5.out, by rw [List.length_append, HNK.out]; simp; omega, HB5.out, _, by omega, HR5.out⟩
  by_cases hz2' : z = 2
  · subst hz2'
    go_wp2_with fail
    go_ret
    exact ⟨_, [], rfl, Own.empty (by omega), by simp, HB4.out.alloc _, _, by omega, HR4.out.below ((Below.refl _ _).alloc (by omega) _)⟩
  have hd0 : ((z : Int) == 0) = false := by simp; omega
  have hd1 : ((z : Int) == 1) = false := by simp; omega
  have hd2 : ((z : Int) == 2) = false := by simp; omega
  go_wp2_with fail
  go_ret
  exact ⟨_, row, rfl, HO4.out, by rw [HNK.out]; omega, HB4.out, _, by omega, HR4.out⟩

theorem openedP (w : World) (A : Option Addr) (n c : Nat) (bs : List Int) (h : RdB w A n bs) (hn : n ≤ 1048576) (hc : n ≤ c) :
    Calls Try.prog 34 #[.slice A n c] w fun e w' => e = .returned (.pointer (some ⟨w.heap.size, 0, none⟩)) ∧ Reads w' w.heap.size 0 ∧ Below w.heap.size w w' ∧ w'.heap.size = w.heap.size + 1 := by
  refine (open_any w A n c hn hc).mono ?_
  rintro e w1 ⟨rfl, L, hL, hLn, rfl⟩
  refine ⟨rfl, ⟨A, L, c, bs.take L, heap_alloc_new w _, ?_, hL, ?_⟩, (Below.refl _ _).alloc (Nat.le_refl _) _, by simp⟩
  · have h1 := h.take hLn
    refine ⟨h1.1, fun hp => ?_, h1.2.2⟩
    obtain ⟨ad, e, hcell⟩ := h1.2.1 hp
    exact ⟨ad, e, fun j hj => (((Below.refl _ _).alloc (Nat.le_refl _) _ : Below w.heap.size w _).cell (World.block_lt_of_cell? w _ (hcell j hj))).trans (hcell j hj)⟩
  · intro ad e hp
    obtain ⟨ad', e', hcell⟩ := h.2.1 (by omega)
    rw [e] at e'; injection e' with e'; subst e'
    have := World.block_lt_of_cell? w _ (hcell 0 (by omega))
    rwa [add_block] at this

end Go.Proofs.Ytkbdbkoeahihiaa
