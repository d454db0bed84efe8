/-
  Distances, the program's: the search.
-/
import Derived.Test.YtkpjlihkeojpfaaFarI
import Derived.Test.YtkpjlihkeojpfaaRepeat
import Derived.StillTailTactics
namespace Go.Proofs.Ytkpjlihkeojpfaa
open Go.RowKit

theorem FarSt.drew {W0 w : World} {B bm bf bq g n c bx : Nat} {F : List Int} {Q : List Nat} (h : FarSt W0 B bm bf bq g n c bx w F Q) : FarSt W0 B bm bf bq g n c bx w.drew F Q :=
  ⟨below_drewN h.below 1, h.size, h.bm, h.bf, h.far.drewN 1, by obtain ⟨v, h1, h2⟩ := h.q; exact ⟨v, h1, h2.drewN 1⟩⟩

set_option maxRecDepth 20000 in
set_option maxHeartbeats 3200000 in
theorem distances_any (bx : Nat) (A A' : Option Addr) (n c c' : Nat) (t f : List Int) (w : World) (hbx : Box2 w bx A n c A' n c') (h : Rd w A n t) (h' : Rd w A' n f) (hm : IsMap t f) (x0 : Nat) (hx0 : x0 < n) :
    Calls Try.prog 13 #[.pointer (some ⟨bx, 0, none⟩), .int .i64 x0] w fun e w' => ∃ v, e = .returned v ∧ Own w' w.heap.size v (farL t f x0) ∧ Below w.heap.size w w' := by
  have hn12 : n ≤ 12 := by rw [← h.1]; exact hm.turn.2.1
  have hn1 : 1 ≤ n := by rw [← h.1]; exact hm.turn.1
  have hxi : (x0 : Int) < n := by omega
  have HX := Lib.hid hbx; have H := Lib.hid h; have H' := Lib.hid h'; have HM := Lib.hid hm
  have c0 := hbx.cell0
  have hbl := hbx.lt
  obtain ⟨W1, hW1⟩ : ∃ W1, w.alloc (.cells #[.pointer (some ⟨bx, 0, none⟩)] 49) = W1 := ⟨_, rfl⟩
  have hs1 : W1.heap.size = w.heap.size + 1 := by rw [← hW1, World.size_alloc]
  have hb1 : Below w.heap.size w W1 := by rw [← hW1]; exact (Below.refl _ _).alloc (Nat.le_refl _) _
  have hm1 : W1.heap[w.heap.size]? = some (.cells #[.pointer (some ⟨bx, 0, none⟩)] 49 (0, 0)) := by rw [← hW1]; exact heap_alloc_new w _
  have cm1 := bx_cell hm1
  have hal1 : Below W1.heap.size W1 (W1.alloc (.cells #[.int .i64 (-1)] 3)) := (Below.refl _ _).alloc (Nat.le_refl _) _
  have cm2 : (W1.alloc (.cells #[.int .i64 (-1)] 3)).cell? ⟨w.heap.size, 0, none⟩ = some (.pointer (some ⟨bx, 0, none⟩)) := bx_cell ((hal1.block _ (by omega)).trans hm1)
  have cx2 := ((hbx.below hb1).below (hal1.mono (by omega))).cell0
  have HB1 := Lib.hid hb1; have HM1 := Lib.hid hm1; have HS1 := Lib.hid hs1
  clear hbx h h' hm hb1 hm1 hal1
  go_enter Try.func13, Try.ntmps13
  go_wp2_with fail
  have hlit : (W1.alloc (.cells #[.int .i64 (-1)] 3)).cell? ((⟨w.heap.size + 1, 0, none⟩ : Addr).add 0) = some (.int .i64 (-1)) := by
    rw [← HS1.out]; exact cell_one_new _ _ _ 0 _ rfl
  refine (repeat_int (some ⟨w.heap.size + 1, 0, none⟩) 1 n (-1) _ ⟨rfl, fun _ => ⟨_, rfl, fun j hj => by
    obtain rfl : j = 0 := by omega
    exact hlit⟩⟩ hn1 hn12).mono ?_
  rintro e w2 ⟨v, rfl, o, b⟩
  rw [World.size_alloc] at o b
  have hb2 : Below w.heap.size w w2 := (HB1.out.alloc (by omega) _).trans (b.mono (by omega))
  have hm2 : w2.heap[w.heap.size]? = some (.cells #[.pointer (some ⟨bx, 0, none⟩)] 49 (0, 0)) := by
    refine (b.block _ (by omega)).trans ?_
    exact (((Below.refl _ _).alloc (Nat.le_refl _) _ : Below W1.heap.size W1 _).block _ (by omega)).trans HM1.out
  have hz2 : w.heap.size + 2 ≤ w2.heap.size := by have := b.size; rw [World.size_alloc] at this; omega
  obtain ⟨A1, c1, rfl, -, -⟩ := o.form' (n := n) (by simp)
  obtain ⟨g, rfl, hg, -, -⟩ := o.cellAt (n := n) (by simp) (k := 0) (by omega)
  have hgl := (o.lt g rfl)
  obtain ⟨W3, hW3⟩ : ∃ W3, w2.alloc (.cells #[.slice none 0 0] 23) = W3 := ⟨_, rfl⟩
  have hs3 : W3.heap.size = w2.heap.size + 1 := by rw [← hW3, World.size_alloc]
  have hf3 : W3.heap[w2.heap.size]? = some (.cells #[.slice none 0 0] 23 (0, 0)) := by rw [← hW3]; exact heap_alloc_new w2 _
  have fz3 : W3.frozen? ⟨w2.heap.size, 0, none⟩ = false := frozen_of_row W3 w2.heap.size 0 _ _ hf3
  have cf3 := bx_cell hf3
  have hb3 : Below w2.heap.size w2 W3 := by rw [← hW3]; exact (Below.refl _ _).alloc (Nat.le_refl _) _
  obtain ⟨W4, hW4⟩ : ∃ W4, W3.setCell ⟨w2.heap.size, 0, none⟩ (.slice (some ⟨g, 0, none⟩) n c1) = W4 := ⟨_, rfl⟩
  have hs4 : W4.heap.size = w2.heap.size + 1 := by rw [← hW4, ← hs3]; simp [World.setCell]
  have hf4 : W4.heap[w2.heap.size]? = some (.cells #[.slice (some ⟨g, 0, none⟩) n c1] 23 (0, 0)) := by rw [← hW4]; exact bx_set hf3
  have hb4 : Below w2.heap.size w2 W4 := by rw [← hW4]; exact hb3.setCell (p := ⟨w2.heap.size, 0, none⟩) (Nat.le_refl _) _
  obtain ⟨W5, hW5⟩ : ∃ W5, W4.alloc (.cells #[.slice none 0 0] 23) = W5 := ⟨_, rfl⟩
  have hs5 : W5.heap.size = w2.heap.size + 2 := by rw [← hW5, World.size_alloc, hs4]
  have hal5 : Below W4.heap.size W4 W5 := by rw [← hW5]; exact (Below.refl _ _).alloc (Nat.le_refl _) _
  have hq5 : W5.heap[w2.heap.size + 1]? = some (.cells #[.slice none 0 0] 23 (0, 0)) := by rw [← hW5, ← hs4]; exact heap_alloc_new W4 _
  have hb5 : Below w2.heap.size w2 W5 := hb4.trans (hal5.mono (by omega))
  have hst : FarSt w (w2.heap.size + 2) w.heap.size w2.heap.size (w2.heap.size + 1) g n c1 bx W5 (List.replicate n (-1)) [] :=
    ⟨hb2.trans (hb5.mono (by omega)), by omega, (hb5.block _ (by omega)).trans hm2, (hal5.block _ (by omega)).trans hf4, (o.below hb5).mono (by omega), _, hq5, Own.nil_ _ _⟩
  have hpl : Pl w.heap.size (w2.heap.size + 2) w.heap.size w2.heap.size (w2.heap.size + 1) g := ⟨by omega, by omega, by omega, by omega, by omega, by omega, by omega, by omega, by omega, by omega⟩
  have HST := Lib.hid hst; have HPL := Lib.hid hpl; have HZ2 := Lib.hid hz2; have HTL : Hid (t.length = n) := H.out.1
  clear o b hm2 hgl hf3 hb3 hf4 hb4 hal5 hq5 hb5 hst hpl hb2 hg hlit
  go_wp2_with fail
  refine (reach_any HPL.out HX.out H.out HM.out.turn W5 _ [] x0 0 HST.out (by rw [← HTL.out]; exact .start _) hx0 (Int.le_refl 0)).mono ?_
  rintro e w3 ⟨rfl, hst⟩
  have hst0 : FarSt w (w2.heap.size + 2) w.heap.size w2.heap.size (w2.heap.size + 1) g n c1 bx w3 (startS t x0).1 (startS t x0).2 := by
    have e : reachS t 0 (n - ([] : List Nat).length) x0 (List.replicate n (-1)) [] = startS t x0 := by unfold startS; rw [HTL.out]; rfl
    rw [e] at hst; exact hst
  have HST0 := Lib.hid hst0; have HFS := Lib.hid (far_start HM.out (by rw [HTL.out]; exact hx0))
  clear hst hst0 hW3 hW4 hW5 hs3 hs4 hs5 cf3 fz3 HST c0 cm1 cm2 cx2 hW1
  go_wp2_with fail
  go_loopw [8] (fun av wr => ∃ (a k : Nat) (F : List Int) (Q : List Nat), av = .int .i64 a ∧ a ≤ n ∧ Hid (k + a = n) ∧ Hid (Far t f x0 F Q a) ∧ Hid (FarSt w (w2.heap.size + 2) w.heap.size w2.heap.size (w2.heap.size + 1) g n c1 bx wr F Q) ∧ Hid (bfsS t f n n 0 (startS t x0).1 (startS t x0).2 = bfsS t f n k a F Q)) (fun av _ => n - (intOf av).toNat)
  case atStart => exact ⟨0, n, _, _, rfl, Nat.zero_le _, rfl, HFS, HST0, rfl⟩
  case round =>
    obtain ⟨a, k, F, Q, rfl, han, hk, hfr, hst, heq⟩ := hrel
    obtain ⟨v, hq, ho⟩ := hst.out.q
    obtain ⟨m, hm⟩ : ∃ m, Q.length = m := ⟨_, rfl⟩
    obtain ⟨Aq, cq, rfl, -, -⟩ := ho.form' (n := m) (by rw [nl_len]; exact hm)
    have cq0 := bx_cell hq
    have cf0 := bx_cell hst.out.bf
    have hmn : m ≤ n := by rw [← hm, ← HTL.out]; exact hfr.out.fq.short
    by_cases ha : a < m
    · obtain ⟨d, hd⟩ : ∃ d, Q.getD a 0 = d := ⟨_, rfl⟩
      have hdq : d ∈ Q := by rw [← hd]; exact getD_mem (by rw [hm]; exact ha)
      have hdn : d < n := by rw [← HTL.out]; exact hfr.out.fq.lt d hdq
      obtain ⟨g2, rfl, hg2, hcq, -⟩ := ho.cellAt (n := m) (by rw [nl_len]; exact hm) ha
      rw [gi_nl (by rw [hm]; exact ha), hd] at hcq
      obtain ⟨_, e1, _, hcf, -⟩ := hst.out.far.cellAt (n := n) (by rw [← HTL.out]; exact hfr.out.fq.len) hdn
      simp only [Option.some.injEq, Addr.mk.injEq, and_true] at e1
      subst e1
      have cm := bx_cell hst.out.bm
      have cx := (HX.out.below hst.out.below).cell1
      obtain ⟨ad, e2, hcp⟩ := (H'.out.below hst.out.below).at_ hdn
      rw [show A' = some ad from e2] at cx
      obtain ⟨y, hy⟩ : ∃ y, gn f d = y := ⟨_, rfl⟩
      have hfl : f.length = n := H'.out.1
      have hyn : y < n := by rw [← hy, ← hfl]; exact HM.out.flip.gn_lt (by rw [hfl]; exact hdn)
      have hgy : gi f d = (y : Int) := by rw [← hy]; exact HM.out.flip.gi_gn (by rw [hfl]; exact hdn)
      rw [hgy] at hcp
      have hval := hfr.out.val hdq
      rw [HTL.out] at hval
      obtain ⟨z, hz⟩ : ∃ z, gi F d = z := ⟨_, rfl⟩
      rw [hz] at hcf hval
      have hwz : IntKind.i64.wrap (z + 1) = z + 1 := IntWalk.i64_in _ (by omega)
      have HCL : Hid (Calls Try.prog 25 #[.int .i64 y, .int .i64 (z + 1), .pointer (some ⟨w2.heap.size, 0, none⟩), .pointer (some ⟨w.heap.size, 0, none⟩), .pointer (some ⟨w2.heap.size + 1, 0, none⟩)] wr.drew
          fun r w' => r = .returned (.tuple #[]) ∧ FarSt w (w2.heap.size + 2) w.heap.size w2.heap.size (w2.heap.size + 1) g n c1 bx w' (reachS t (z + 1) (n - Q.length) y F Q).1 (reachS t (z + 1) (n - Q.length) y F Q).2) :=
        reach_any HPL.out HX.out H.out HM.out.turn wr.drew F Q y (z + 1) hst.out.drew (by rw [← HTL.out]; exact hfr.out.fq) hyn (by omega)
      have HNX := Lib.hid (hfr.out.next HM.out (by rw [hm]; exact ha))
      rw [hd, hz, hy, HTL.out] at HNX
      obtain ⟨k', hk'⟩ : ∃ k', k = k' + 1 := ⟨k - 1, by have := hk.out; omega⟩
      have HBE : Hid (bfsS t f n n 0 (startS t x0).1 (startS t x0).2 = bfsS t f n k' (a + 1) (reachS t (z + 1) (n - Q.length) y F Q).1 (reachS t (z + 1) (n - Q.length) y F Q).2) := by
        rw [Hid, heq.out, hk', bfsS, if_pos (by rw [hm]; exact ha), hd, hz, hy]
      clear hq ho hm hd hdq hy hgy hz e2 hfl
      go_wp2_with fail
      go_still_tail 13, (by kernel_rfl)
      go_wp2_with fail
      refine HCL.out.mono ?_
      rintro e w4 ⟨rfl, hst4⟩
      have HST4 := Lib.hid hst4; clear hst4
      go_wp2_with fail
      go_roundw
      case rel => exact ⟨a + 1, k', _, _, by go_num, by omega, by have := hk.out; rw [Hid]; omega, HNX, HST4, HBE⟩
      case measure => simp [intOf]; omega
    · have ham : a = m := by have := hfr.out.le; omega
      have hres : farL t f x0 = F := by
        unfold farL
        rw [HTL.out, heq.out]
        cases k with
        | zero => rfl
        | succ k => rw [bfsS, if_neg (by omega)]
      go_wp2_with fail
      go_ret
      exact ⟨_, rfl, by rw [hres]; exact hst.out.far, hst.out.below⟩
end Go.Proofs.Ytkpjlihkeojpfaa
