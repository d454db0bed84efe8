/-
  Draws of lists of partitions.
-/
import Derived.Test.YtkbdbkoeahihiaaDrawPq
import Derived.Test.YtkbdbkoeahihiaaRdO
import Derived.Test.YtkbdbkoeahihiaaTys
namespace Go.Proofs.Ytkbdbkoeahihiaa
open Go.RowKit

theorem Own.far_rd {w w' : World} {lo rb q : Nat} {v : Value} {xs : List Int} (h : Own w lo v xs) (hr : Reads w rb q) (hg : Gr rb w w') : Own w' lo v xs := by
  refine h.grown hg ?_
  cases hu : v.ownBlock with
  | none => exact .inl rfl
  | some k =>
    refine .inr fun e => ?_
    obtain ⟨_, cs, h1⟩ := row_kind h k hu
    obtain ⟨A, L, c, bs, h2, _⟩ := hr
    injection e with e; subst e
    unfold AtR at h2
    rw [h1] at h2
    exact absurd h2 (by simp)
theorem RowO.far_rd {w w' : World} {lo rb q : Nat} {v : Value} {xss : List (List Int)} (h : RowO w lo v xss) (hr : Reads w rb q) (hg : Gr rb w w') : RowO w' lo v xss := by
  obtain ⟨vs, ho, h1, h2⟩ := h
  refine ⟨vs, World.ownsRow.kept ho hg ?_, h1, fun j hj => (h2 j hj).far_rd hr hg⟩
  cases hu : v.ownBlock with
  | none => exact .inl rfl
  | some k =>
    refine .inr fun e => ?_
    obtain ⟨_, cs, h1⟩ := row_kind ho k hu
    obtain ⟨A, L, c, bs, h2, _⟩ := hr
    injection e with e; subst e
    unfold AtR at h2
    rw [h1] at h2
    exact absurd h2 (by simp)

theorem info_sliceT : (Try.prog.info? 23).map (fun i => (i.zero, i.size, i.bytes)) = some (some (.slice none 0 0), 1, 24) := by kernel_rfl
/-- All rows are short. -/
def Shrt (xss : List (List Int)) : Prop := ∀ xs ∈ xss, xs.length ≤ 8
theorem Shrt.snoc {xss : List (List Int)} {xs : List Int} (h : Shrt xss) (k : xs.length ≤ 8) : Shrt (xss ++ [xs]) := by
  intro y hy
  rcases List.mem_append.1 hy with h1 | h1
  · exact h y h1
  · rw [List.mem_singleton.1 h1]; exact k
theorem Shrt.total {xss : List (List Int)} (h : Shrt xss) : total xss ≤ 8 * xss.length := by
  induction xss with
  | nil => exact Nat.le_refl _
  | cons x r ih =>
    have h1 := h x (by simp)
    have h2 := ih fun y hy => h y (by simp [hy])
    simp only [Go.Proofs.Ytkbdbkoeahihiaa.total, List.length_cons]
    omega

set_option maxRecDepth 100000 in
set_option maxHeartbeats 1600000 in
theorem types_reads (w : World) (rb size most : Nat) (hr : Reads w rb 0 ∨ Reads w rb 1) (hs1 : 1 ≤ size) (hsz : size ≤ 6) (hm1 : 1 ≤ most) (hm : most ≤ 7) :
    Calls Try.prog 48 #[.pointer (some ⟨rb, 0, none⟩), .int .i64 size, .int .i64 most] w fun e w' => ∃ v xss, e = .returned v ∧ RowO w' w.heap.size v xss ∧ xss.length ≤ 8 ∧ Shrt xss ∧ Gr rb w w' := by
  obtain ⟨i1, hinf1, hy0, hy1, hy2⟩ := info_parts info_sliceT
  obtain ⟨q, hq1, hrd⟩ : ∃ q, q ≤ 1 ∧ Reads w rb q := by rcases hr with h | h <;> exact ⟨_, by omega, h⟩
  have hlt0 := hrd.lt
  have HR0 := Lib.hid hrd
  clear hr hrd
  go_enter Try.func48, Try.ntmps48
  go_wp2_with fail
  refine (pick_reads w rb q HR0.out (by omega) (size : Int) (by omega) (by omega)).mono ?_
  rintro e w1 ⟨x, rfl, hx, r1, g1⟩
  have hz1 := g1.size
  have HB1 : Hid (Gr rb w w1) := g1
  have HR1 := Lib.hid r1; clear r1 g1
  obtain ⟨N, hN⟩ : ∃ N, x + 1 = N := ⟨_, rfl⟩
  have e1 : (1 : Int) + (x : Int) = (N : Int) := by omega
  have hN7 : 1 ≤ N ∧ N ≤ 7 := by omega
  clear hN
  go_wp2_with fail
  try rw [e1]
  obtain ⟨W1, hW1⟩ : ∃ W1, w1.alloc (.cells #[] 23) = W1 := ⟨_, rfl⟩
  have HO1 : Hid (RowO W1 w.heap.size (.slice (some ⟨w1.heap.size, 0, none⟩) 0 0) []) := by rw [Hid, ← hW1]; exact RowO.empty hz1
  have HB2 : Hid (Gr rb w W1) := by rw [Hid, ← hW1]; exact HB1.out.alloc _
  have HR2 : Hid (Reads W1 rb (q + 1)) := by rw [Hid, ← hW1]; exact HR1.out.below ((Below.refl _ _).alloc (by omega) _)
  rw [hW1]
  clear hW1
  refine (pick_reads W1 rb (q + 1) HR2.out (by omega) (most : Int) (by omega) (by omega)).mono ?_
  rintro e w2 ⟨y, rfl, hy, r2, g2⟩
  have HO2 : Hid (RowO w2 w.heap.size (.slice (some ⟨w1.heap.size, 0, none⟩) 0 0) []) := HO1.out.far_rd HR2.out g2
  have HB3 : Hid (Gr rb w w2) := HB2.out.trans g2
  have HR3 := Lib.hid r2; clear r2 g2
  obtain ⟨K, hK⟩ : ∃ K, y + 1 = K := ⟨_, rfl⟩
  have e2 : (1 : Int) + (y : Int) = (K : Int) := by omega
  have hK7 : 1 ≤ K ∧ K ≤ 7 := by omega
  clear hK
  go_wp2_with fail
  try rw [e2]
  go_loopw [8, 10] (fun ov iv wr => ∃ (k : Nat) (A : Option Addr) (c q' : Nat) (xss : List (List Int)), k ≤ K ∧ ov = .slice A k c ∧ iv = .int .i64 k ∧ q' ≤ 3 + 3 * k ∧ Hid (xss.length = k) ∧ Hid (RowO wr w.heap.size (.slice A k c) xss) ∧ Hid (Shrt xss) ∧ Hid (Gr rb w wr) ∧ Hid (Reads wr rb q')) (fun _ iv _ => K - (intOf iv).toNat)
  case atStart => exact ⟨0, _, 0, q + 1 + 1, [], Nat.zero_le _, rfl, rfl, by omega, rfl, HO2.out, fun _ h => absurd h (by simp), HB3.out, HR3.out⟩
  case round =>
    obtain ⟨k, A, c, q', xss, hk, rfl, rfl, hq', hl, ho, hsh, hg, hrd⟩ := hrel
    clear HO1 HO2 HB2 HB3 HR2 HR3
    have hgs := hg.out.size
    by_cases hlt : k < K
    · go_wp2_with (first
        | (have hchk := HOW4.out; clear hchk; at_builtin; refine wpList_append_own _ rfl _ _ 28 rfl w.heap.size 23 i1 (.slice none 0 0) 1 24 Try.underlying28 hinf1 hy0 hy1 hy2 rfl (by decide) _ _ _ rfl (HOW4.out.alloc _) ⟨w4.heap.size, 0, none⟩ 1 1 [.slice Av ny cv] rfl rfl (cell_one_new _ _ _) (by intro u hu; simp at hu; subst hu; rfl) (by unfold maxLen; omega) (by omega) (by rw [World.size_alloc]; have := HG4.out.size; omega) ?_; intro v1 w5 hown1 hgrow1 _; have HN5 := Lib.hid hown1; have HG5 := Lib.hid hgrow1; clear hown1 hgrow1)
        | (go_at_call 35; refine (parts_reads wr rb q' N hrd.out (by omega) (by omega) (by omega)).mono ?_; rintro e w4 ⟨v, ys, rfl, o, hl4, g4, q4, hq4, r4⟩; obtain ⟨ny, hny⟩ : ∃ ny, ys.length = ny := ⟨_, rfl⟩; obtain ⟨Av, cv, rfl, -, -⟩ := o.form' hny; have HNY := Lib.hid hny; have HV : Hid (Own w4 0 (.slice Av ny cv) ys) := o.mono (Nat.zero_le _); have HG4 := Lib.hid g4; have HR4 := Lib.hid r4; have HL4 := Lib.hid hl4; have HQ4 := Lib.hid hq4; have HO4 := Lib.hid (ho.out.far_rd hrd.out g4); clear o g4 r4 hl4 hq4 hny; obtain ⟨vs, hown4, hrows4⟩ := HO4.out; rw [hl.out] at hown4; have HOW4 := Lib.hid hown4; have HRW4 := Lib.hid hrows4; clear hown4 hrows4))
      have hal : Below w4.heap.size w4 (w4.alloc (.cells #[.slice Av ny cv] 23)) := (Below.refl _ _).alloc (Nat.le_refl _) _
      have HO5 : Hid (RowO w5 w.heap.size v1 (xss ++ [ys])) := RowO.added hl.out (World.ownsRow.alloc HOW4.out _) (HRW4.out.below hal) (.one (HV.out.below hal)) HN5.out rfl HG5.out
      have HR5 : Hid (Reads w5 rb q4) := HR4.out.below (((Below.refl (rb + 1) w4).alloc (by have := HG4.out.size; omega) _).grown HG5.out (by rw [World.size_alloc]; have := HG4.out.size; omega) (fun j hj => by have := (HO4.out.lt j hj).1; omega))
      have HB5 : Hid (Gr rb w w5) := ((hg.out.trans HG4.out).alloc _).own HG5.out (fun j hj => (HO4.out.lt j hj).1)
      have HS5 : Hid (Shrt (xss ++ [ys])) := hsh.out.snoc (by rw [HNY.out]; have := HL4.out; rwa [HNY.out] at this)
      have HL5 : Hid ((xss ++ [ys]).length = k + 1) := by rw [Hid, List.length_append, hl.out]; rfl
      obtain ⟨A1, c1, rfl, -⟩ := HO5.out.form HL5.out
      have hq4 := HQ4.out
      go_roundw
      case rel => exact ⟨k + 1, A1, c1, q4, _, by omega, rfl, by go_num, by omega, HL5.out, HO5.out, HS5.out, HB5.out, HR5.out⟩
      case measure => simp [intOf]; omega
    · have hkK : k = K := by omega
      have HK := Lib.hid hkK; clear hkK
      go_wp2_with fail
      refine (pick_reads wr rb q' hrd.out (by omega) 30 (by omega) (by omega)).mono ?_
      rintro e w3 ⟨z, rfl, hz, r3, g3⟩
      have HO3 : Hid (RowO w3 w.heap.size (.slice A k c) xss) := ho.out.far_rd hrd.out g3
      have HG3 : Hid (Gr rb w w3) := hg.out.trans g3
      have HR3 := Lib.hid r3; clear r3 g3
      have hg3s := HG3.out.size
      by_cases hz0 : z = 0
      · subst hz0
        go_wp2_with fail
        go_ret
        exact ⟨_, [], rfl, RowO.empty hg3s, by simp, fun _ h => absurd h (by simp), HG3.out.alloc _⟩
      by_cases hz1 : z = 1
      · subst hz1
        go_wp2_with fail
        refine (pick_reads w3 rb (q' + 1) HR3.out (by omega) 4 (by omega) (by omega)).mono ?_
        rintro e w4 ⟨x4, rfl, hx4, r4, g4⟩
        have HO4 : Hid (RowO w4 w.heap.size (.slice A k c) xss) := HO3.out.far_rd HR3.out g4
        have HG4 : Hid (Gr rb w w4) := HG3.out.trans g4
        have HR4 := Lib.hid r4; clear r4 g4
        obtain ⟨M, hM⟩ : ∃ M, x4 + 1 = M := ⟨_, rfl⟩
        have e4 : (1 : Int) + (x4 : Int) = (M : Int) := by omega
        have hM7 : 1 ≤ M ∧ M ≤ 7 := by omega
        clear hM
        go_wp2_with fail
        try rw [e4]
        refine (parts_reads w4 rb (q' + 1 + 1) M HR4.out (by omega) (by omega) (by omega)).mono ?_
        rintro e w5 ⟨v, ys, rfl, o, hl5, g5, q5, hq5, r5⟩
        obtain ⟨ny, hny⟩ : ∃ ny, ys.length = ny := ⟨_, rfl⟩
        obtain ⟨Av, cv, rfl, -, -⟩ := o.form' hny
        have HV : Hid (Own w5 0 (.slice Av ny cv) ys) := o.mono (Nat.zero_le _)
        have HO5 : Hid (RowO w5 w.heap.size (.slice A k c) xss) := HO4.out.far_rd HR4.out g5
        have HG5 : Hid (Gr rb w w5) := HG4.out.trans g5
        have HL5 := Lib.hid hl5
        clear o g5 r5 hny hl5 hq5
        have hg5s := HG5.out.size
        obtain ⟨vs, hown5, hrows5⟩ := HO5.out
        rw [hl.out] at hown5
        have HOW5 := Lib.hid hown5; have HRW5 := Lib.hid hrows5; clear hown5 hrows5
        go_wp2_with (at_builtin; refine wpList_append_own _ rfl _ _ 28 rfl w.heap.size 23 i1 (.slice none 0 0) 1 24 Try.underlying28 hinf1 hy0 hy1 hy2 rfl (by decide) _ _ _ rfl (HOW5.out.alloc _) ⟨w5.heap.size, 0, none⟩ 1 1 [.slice Av ny cv] rfl rfl (cell_one_new _ _ _) (by intro u hu; simp at hu; subst hu; rfl) (by unfold maxLen; omega) (by omega) (by rw [World.size_alloc]; omega) ?_; intro v1 w6 hown1 hgrow1 _; have HN6 := Lib.hid hown1; have HG6 := Lib.hid hgrow1; clear hown1 hgrow1)
        have hal : Below w5.heap.size w5 (w5.alloc (.cells #[.slice Av ny cv] 23)) := (Below.refl _ _).alloc (Nat.le_refl _) _
        have HO6 : Hid (RowO w6 w.heap.size v1 (xss ++ [ys])) := RowO.added hl.out (World.ownsRow.alloc HOW5.out _) (HRW5.out.below hal) (.one (HV.out.below hal)) HN6.out rfl HG6.out
        have HB6 : Hid (Gr rb w w6) := (HG5.out.alloc _).own HG6.out (fun j hj => (HO5.out.lt j hj).1)
        have HS6 : Hid (Shrt (xss ++ [ys])) := hsh.out.snoc HL5.out
        have HL6 : Hid ((xss ++ [ys]).length = k + 1) := by rw [Hid, List.length_append, hl.out]; rfl
        clear hal
        go_wp2_with fail
        go_ret
        exact ⟨_, _, rfl, HO6.out, by rw [HL6.out]; omega, HS6.out, HB6.out⟩
      have hd0 : ((z : Int) == 0) = false := by simp; omega
      have hd1 : ((z : Int) == 1) = false := by simp; omega
      go_wp2_with fail
      go_ret
      exact ⟨_, xss, rfl, HO3.out, by rw [hl.out]; omega, hsh.out, HG3.out⟩

set_option maxHeartbeats 800000 in
theorem drawFactorGenus_any (w : World) (A : Option Addr) (n c : Nat) (bs : List Int) (h : RdB w A n bs) (hn : n ≤ 1048576) (hc : n ≤ c) :
    Calls Try.prog 24 #[.slice A n c] w fun e w' => ∃ v xss, e = .returned v ∧ RowO w' w.heap.size v xss ∧ xss.length ≤ 8 ∧ Shrt xss ∧ Below w.heap.size w w' := by
  go_enter Try.func24, Try.ntmps24
  go_wp2_with fail
  refine (openedP w A n c bs h hn hc).mono ?_
  rintro e w1 ⟨rfl, r1, b1, s1⟩
  have HB1 := Lib.hid b1; have HR1 := Lib.hid r1; clear b1 r1
  go_wp2_with fail
  refine (types_reads w1 w.heap.size 6 4 (.inl HR1.out) (by omega) (by omega) (by omega) (by omega)).mono ?_
  rintro e w2 ⟨v, xss, rfl, o, hl, hs, g⟩
  have HO := Lib.hid (o.mono HB1.out.size); have HS := Lib.hid hs
  have HB2 : Hid (Below w.heap.size w w2) := HB1.out.trans (g.below (by omega))
  clear o g hs
  go_wp2_with fail
  go_ret
  exact ⟨v, xss, rfl, HO.out, hl, HS.out, HB2.out⟩

set_option maxHeartbeats 800000 in
theorem drawFactorCount_any (w : World) (A : Option Addr) (n c : Nat) (bs : List Int) (h : RdB w A n bs) (hn : n ≤ 1048576) (hc : n ≤ c) :
    Calls Try.prog 32 #[.slice A n c] w fun e w' => ∃ v xss, e = .returned v ∧ RowO w' w.heap.size v xss ∧ xss.length ≤ 8 ∧ Shrt xss ∧ Below w.heap.size w w' := by
  go_enter Try.func32, Try.ntmps32
  go_wp2_with fail
  refine (openedP w A n c bs h hn hc).mono ?_
  rintro e w1 ⟨rfl, r1, b1, s1⟩
  have HB1 := Lib.hid b1; have HR1 := Lib.hid r1; clear b1 r1
  go_wp2_with fail
  refine (pick_reads w1 w.heap.size 0 HR1.out (by omega) 8 (by omega) (by omega)).mono ?_
  rintro e w2 ⟨x, rfl, hx, r2, g2⟩
  have hs2 := g2.size
  have HB2 : Hid (Below w.heap.size w w2) := HB1.out.trans ((Below.refl _ _).grown g2 (by omega) (fun k hk => by cases hk; exact Nat.le_refl _))
  have HR2 := Lib.hid r2; clear r2 g2
  by_cases hx0 : x = 0
  · subst hx0
    go_wp2_with fail
    refine (types_reads w2 w.heap.size 4 7 (.inr HR2.out) (by omega) (by omega) (by omega) (by omega)).mono ?_
    rintro e w3 ⟨v, xss, rfl, o, hl, hs, g⟩
    have HO := Lib.hid (o.mono HB2.out.size); have HS := Lib.hid hs
    have HB3 : Hid (Below w.heap.size w w3) := HB2.out.trans (g.below (by omega))
    clear o g hs
    go_wp2_with fail
    go_ret
    exact ⟨v, xss, rfl, HO.out, hl, HS.out, HB3.out⟩
  · have hd : ((x : Int) == 0) = false := by simp; omega
    go_wp2_with fail
    refine (types_reads w2 w.heap.size 5 4 (.inr HR2.out) (by omega) (by omega) (by omega) (by omega)).mono ?_
    rintro e w3 ⟨v, xss, rfl, o, hl, hs, g⟩
    have HO := Lib.hid (o.mono HB2.out.size); have HS := Lib.hid hs
    have HB3 : Hid (Below w.heap.size w w3) := HB2.out.trans (g.below (by omega))
    clear o g hs
    go_wp2_with fail
    go_ret
    exact ⟨v, xss, rfl, HO.out, hl, HS.out, HB3.out⟩

set_option maxHeartbeats 800000 in
theorem drawCutJoin_any (w : World) (A : Option Addr) (n c : Nat) (bs : List Int) (h : RdB w A n bs) (hn : n ≤ 1048576) (hc : n ≤ c) :
    Calls Try.prog 28 #[.slice A n c] w fun e w' => ∃ A n c xs B m d ys, e = .returned (.tuple #[.slice A n c, .slice B m d]) ∧ Own w' w.heap.size (.slice A n c) xs ∧ xs.length = n ∧ n ≤ 8 ∧ Own w' w.heap.size (.slice B m d) ys ∧ ys.length = m ∧ m ≤ 8 ∧ Below w.heap.size w w' := by
  go_enter Try.func28, Try.ntmps28
  go_wp2_with fail
  refine (openedP w A n c bs h hn hc).mono ?_
  rintro e w1 ⟨rfl, r1, b1, s1⟩
  have HB1 := Lib.hid b1; have HR1 := Lib.hid r1; clear b1 r1
  go_wp2_with fail
  refine (pair_reads w1 w.heap.size 0 6 HR1.out (by omega) (by omega) (by omega)).mono ?_
  rintro e w2 ⟨A1, n1, c1, xs, B1, m1, d1, ys, rfl, o1, l1, h1, o2, l2, h2, g⟩
  have HO1 := Lib.hid (o1.mono HB1.out.size); have HO2 := Lib.hid (o2.mono HB1.out.size)
  have HB2 : Hid (Below w.heap.size w w2) := HB1.out.trans (g.below (by omega))
  clear o1 o2 g
  go_wp2_with fail
  go_ret2
  exact ⟨A1, n1, c1, xs, B1, m1, d1, ys, rfl, HO1.out, l1, h1, HO2.out, l2, h2, HB2.out⟩

set_option maxHeartbeats 800000 in
theorem drawPartsValid_any (w : World) (A : Option Addr) (n c : Nat) (bs : List Int) (h : RdB w A n bs) (hn : n ≤ 1048576) (hc : n ≤ c) :
    Calls Try.prog 9 #[.slice A n c] w fun e w' => ∃ v ys, e = .returned v ∧ Own w' w.heap.size v ys ∧ ys.length ≤ 8 ∧ Below w.heap.size w w' := by
  go_enter Try.func9, Try.ntmps9
  go_wp2_with fail
  refine (openedP w A n c bs h hn hc).mono ?_
  rintro e w1 ⟨rfl, r1, b1, s1⟩
  have HB1 := Lib.hid b1; have HR1 := Lib.hid r1; clear b1 r1
  go_wp2_with fail
  refine (pick_reads w1 w.heap.size 0 HR1.out (by omega) 7 (by omega) (by omega)).mono ?_
  rintro e w2 ⟨x, rfl, hx, r2, g2⟩
  have hs2 := g2.size
  have HB2 : Hid (Below w.heap.size w w2) := HB1.out.trans ((Below.refl _ _).grown g2 (by omega) (fun k hk => by cases hk; exact Nat.le_refl _))
  have HR2 := Lib.hid r2; clear r2 g2
  have e1 : (1 : Int) + (x : Int) = ((x + 1 : Nat) : Int) := by omega
  go_wp2_with fail
  try rw [e1]
  refine (parts_reads w2 w.heap.size 1 (x + 1) HR2.out (by omega) (by omega) (by omega)).mono ?_
  rintro e w3 ⟨v, ys, rfl, o, hl, g3, -⟩
  have HO := Lib.hid (o.mono HB2.out.size)
  have HB3 : Hid (Below w.heap.size w w3) := HB2.out.trans (g3.below (by omega))
  clear o g3
  go_wp2_with fail
  go_ret
  exact ⟨v, ys, rfl, HO.out, hl, HB3.out⟩

set_option maxHeartbeats 800000 in
theorem drawPartsAll_any (w : World) (A : Option Addr) (n c : Nat) (bs : List Int) (h : RdB w A n bs) (hn : n ≤ 1048576) (hc : n ≤ c) :
    Calls Try.prog 18 #[.slice A n c] w fun e w' => ∃ x : Nat, e = .returned (.int .i64 x) ∧ x ≤ 7 ∧ Below w.heap.size w w' := by
  go_enter Try.func18, Try.ntmps18
  go_wp2_with fail
  refine (openedP w A n c bs h hn hc).mono ?_
  rintro e w1 ⟨rfl, r1, b1, s1⟩
  have HB1 := Lib.hid b1; have HR1 := Lib.hid r1; clear b1 r1
  go_wp2_with fail
  refine (pick_reads w1 w.heap.size 0 HR1.out (by omega) 8 (by omega) (by omega)).mono ?_
  rintro e w2 ⟨x, rfl, hx, r2, g2⟩
  have hs2 := g2.size
  have HB2 : Hid (Below w.heap.size w w2) := HB1.out.trans ((Below.refl _ _).grown g2 (by omega) (fun k hk => by cases hk; exact Nat.le_refl _))
  clear r2 g2
  go_wp2_with fail
  go_ret
  exact ⟨x, rfl, by omega, HB2.out⟩

end Go.Proofs.Ytkbdbkoeahihiaa
