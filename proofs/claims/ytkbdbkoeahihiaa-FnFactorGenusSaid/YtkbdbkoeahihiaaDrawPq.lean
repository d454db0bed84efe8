/-
  Draws of two partitions.
-/
import Derived.Test.YtkbdbkoeahihiaaDrawPt
namespace Go.Proofs.Ytkbdbkoeahihiaa
open Go.RowKit

set_option maxRecDepth 100000 in
set_option maxHeartbeats 1600000 in
theorem pair_reads (w : World) (rb q most : Nat) (hr : Reads w rb q) (hq : q ≤ 900) (hm1 : 1 ≤ most) (hm : most ≤ 6) :
    Calls Try.prog 53 #[.pointer (some ⟨rb, 0, none⟩), .int .i64 most] w fun e w' => ∃ A n c xs B m d ys, e = .returned (.tuple #[.slice A n c, .slice B m d]) ∧ Own w' w.heap.size (.slice A n c) xs ∧ xs.length = n ∧ n ≤ 8 ∧ Own w' w.heap.size (.slice B m d) ys ∧ ys.length = m ∧ m ≤ 8 ∧ Gr rb w w' := by
  have hlt0 := hr.lt
  have HR0 := Lib.hid hr; clear hr
  go_enter Try.func53, Try.ntmps53
  go_wp2_with fail
  refine (pick_reads w rb q HR0.out (by omega) (most : Int) (by omega) (by omega)).mono ?_
  rintro e w1 ⟨x, rfl, hx, r1, g1⟩
  have hs1 := g1.size
  have HB1 : Hid (Gr rb w w1) := g1
  have HR1 := Lib.hid r1; clear r1 g1
  obtain ⟨N, hN⟩ : ∃ N, x + 1 = N := ⟨_, rfl⟩
  have e1 : (1 : Int) + (x : Int) = (N : Int) := by omega
  have hw1 : IntKind.i64.wrap ((1 : Int) + (x : Int)) = (N : Int) := by rw [e1]; exact IntWalk.i64_in _ (by omega)
  have hN7 : 1 ≤ N ∧ N ≤ 7 := by omega
  clear hN
  go_wp2_with fail
  try rw [e1]
  refine (parts_reads w1 rb (q + 1) N HR1.out (by omega) (by omega) (by omega)).mono ?_
  rintro e w2 ⟨v, xs, rfl, o, hl, g2, q2, hq2, r2⟩
  have hs2 := g2.size
  obtain ⟨n, hn⟩ : ∃ n, xs.length = n := ⟨_, rfl⟩
  rw [hn] at hl
  obtain ⟨A, c, rfl, -, -⟩ := o.form' hn
  have HO2 : Hid (Own w2 w.heap.size (.slice A n c) xs) := o.mono hs1
  have HB2 : Hid (Gr rb w w2) := HB1.out.trans g2
  have HR2 := Lib.hid r2; have HN := Lib.hid hn; clear o g2 r2 hn HB1 HR1 HR0
  go_wp2_with fail
  refine (pick_reads w2 rb q2 HR2.out (by omega) 16 (by omega) (by omega)).mono ?_
  rintro e w3 ⟨z, rfl, hz, r3, g3⟩
  have hs3 := g3.size
  have HO3 : Hid (Own w3 w.heap.size (.slice A n c) xs) := HO2.out.gr g3 hlt0
  have HB3 : Hid (Gr rb w w3) := HB2.out.trans g3
  have HR3 := Lib.hid r3; clear r3 g3 HO2 HB2 HR2
  by_cases hz0 : z = 0
  · subst hz0
    go_wp2_with fail
    refine (pick_reads w3 rb (q2 + 1) HR3.out (by omega) (most : Int) (by omega) (by omega)).mono ?_
    rintro e w4 ⟨y, rfl, hy, r4, g4⟩
    have hs4 := g4.size
    have HO4 : Hid (Own w4 w.heap.size (.slice A n c) xs) := HO3.out.gr g4 hlt0
    have HB4 : Hid (Gr rb w w4) := HB3.out.trans g4
    have HR4 := Lib.hid r4; clear r4 g4
    obtain ⟨M, hM⟩ : ∃ M, y + 1 = M := ⟨_, rfl⟩
    have e2 : (1 : Int) + (y : Int) = (M : Int) := by omega
    have hM7 : 1 ≤ M ∧ M ≤ 7 := by omega
    clear hM
    go_wp2_with fail
    try rw [e2]
    refine (parts_reads w4 rb (q2 + 1 + 1) M HR4.out (by omega) (by omega) (by omega)).mono ?_
    rintro e w5 ⟨v, ys, rfl, o, hl2, g5, -⟩
    obtain ⟨m, hm⟩ : ∃ m, ys.length = m := ⟨_, rfl⟩
    rw [hm] at hl2
    obtain ⟨B, d, rfl, -, -⟩ := o.form' hm
    have HO5 : Hid (Own w5 w.heap.size (.slice A n c) xs) := HO4.out.gr g5 hlt0
    have HP5 : Hid (Own w5 w.heap.size (.slice B m d) ys) := o.mono (by omega)
    have HB5 : Hid (Gr rb w w5) := HB4.out.trans g5
    have HM := Lib.hid hm
    clear o g5 hm
    go_wp2_with fail
    go_ret2
    exact ⟨A, n, c, xs, B, m, d, ys, rfl, HO5.out, HN.out, hl, HP5.out, HM.out, hl2, HB5.out⟩
  · have hd : ((z : Int) == 0) = false := by simp; omega
    go_wp2_with fail
    refine (parts_reads w3 rb (q2 + 1) N HR3.out (by omega) (by omega) (by omega)).mono ?_
    rintro e w5 ⟨v, ys, rfl, o, hl2, g5, -⟩
    obtain ⟨m, hm⟩ : ∃ m, ys.length = m := ⟨_, rfl⟩
    rw [hm] at hl2
    obtain ⟨B, d, rfl, -, -⟩ := o.form' hm
    have HO5 : Hid (Own w5 w.heap.size (.slice A n c) xs) := HO3.out.gr g5 hlt0
    have HP5 : Hid (Own w5 w.heap.size (.slice B m d) ys) := o.mono (by omega)
    have HB5 : Hid (Gr rb w w5) := HB3.out.trans g5
    have HM := Lib.hid hm
    clear o g5 hm
    go_wp2_with fail
    go_ret2
    exact ⟨A, n, c, xs, B, m, d, ys, rfl, HO5.out, HN.out, hl, HP5.out, HM.out, hl2, HB5.out⟩

end Go.Proofs.Ytkbdbkoeahihiaa
