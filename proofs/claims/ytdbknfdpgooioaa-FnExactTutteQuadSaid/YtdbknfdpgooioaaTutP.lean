/-
  Tutte's quadrangulation: the program's.
-/
import Derived.Test.YtdbknfdpgooioaaDual
import Derived.Test.YtdbknfdpgooioaaFlip3
import Derived.Test.YtdbknfdpgooioaaBack
namespace Go.Proofs.Ytdbknfdpgooioaa
open Go.RowKit

set_option maxHeartbeats 800000 in
theorem still_new (n : Nat) (w : World) (hn : n ≤ 1048576) :
    Calls Try.prog 78 #[.int .i64 n] w fun e w' => ∃ v, e = .returned v ∧ Own w' w.heap.size v (marks 0 n) ∧ Below w.heap.size w w' := by
  obtain ⟨i0, hinf, hz0, hz1, hz2⟩ := info_parts info_int
  go_enter Try.func78, Try.ntmps78
  go_wp2_with (at_make; refine wpList_make_full _ rfl _ _ 67 rfl w.heap.size 3 i0 (.int .i64 0) 1 Try.underlying67 hinf hz0 hz1 .i64 .i64 _ _ n rfl rfl rfl rfl (by rw [hz2]; omega) (by unfold maxLen; omega) (Nat.le_refl _) ?_; intro w1 hown1 hgrow1)
  have hb1 := Lib.hid (below_of_grown hgrow1 (Nat.le_refl _) (fun k hk => by cases hk))
  have ho1 := Lib.hid (Own.made hown1)
  clear hown1 hgrow1 hz0 hz1 hz2 hinf
  go_loopw [9] (fun i wr => ∃ (k : Nat) (zs : List Int), k ≤ n ∧ i = .int .i64 k ∧ Hid (Own wr w.heap.size (.slice (some ⟨w.heap.size, 0, none⟩) n n) zs) ∧ Hid (zs.length = n) ∧ Hid (Below w.heap.size w wr) ∧ Hid (∀ j, j < k → gi zs j = j)) (fun i _ => n - (intOf i).toNat)
  case atStart => exact ⟨0, _, Nat.zero_le _, rfl, ho1, by simp [Hid], hb1, fun j hj => absurd hj (by omega)⟩
  case round =>
    obtain ⟨k, zs, hk, rfl, ho, hzl, hb, hall⟩ := hrel
    by_cases hlt : k < n
    · obtain ⟨g, hg, _, hc3, hf3⟩ := ho.out.cellAt hzl.out hlt
      simp only [Option.some.injEq, Addr.mk.injEq, and_true] at hg
      subst hg
      have HS := Lib.hid (ho.out.stored hzl.out k (k : Int))
      go_wp2_with fail
      go_roundw
      case rel =>
        refine ⟨k + 1, _, by omega, by go_num, HS.out.1, by simpa [Hid] using hzl.out, hb.out.setCell (Nat.le_refl _) _, fun j hj => ?_⟩
        rw [gi_set _ _ _ _ (by rw [hzl.out]; exact hlt)]
        by_cases e : j = k
        · rw [if_pos e, e]
        · rw [if_neg e]; exact hall.out j (by omega)
      case measure => simp [intOf]; omega
    · obtain rfl : k = n := by omega
      go_wp2_with fail
      go_ret
      refine ⟨_, rfl, ?_, hb.out⟩
      have e : zs = marks 0 k := eq_of_gi (by rw [hzl.out, marks_len]) (fun j hj => by rw [hzl.out] at hj; rw [hall.out j hj, gi_marks hj]; omega)
      rw [← e]; exact ho.out

def sbsL (n : Nat) : List Int := tab n fun i => bits .xor .i64 (i : Int) 1
theorem sbs_flip : ∀ k : Nat, k < 13 → sbsL (2 * k) = flipL k := by decide +kernel
set_option maxHeartbeats 800000 in
theorem side_any (n : Nat) (w : World) (hn : n ≤ 1048576) :
    Calls Try.prog 62 #[.int .i64 n] w fun e w' => ∃ v, e = .returned v ∧ Own w' w.heap.size v (sbsL n) ∧ Below w.heap.size w w' := by
  go_enter Try.func62, Try.ntmps62
  go_wp2_with fail
  refine (still_new n w hn).mono ?_
  rintro e w1 ⟨v, rfl, o, b⟩
  obtain ⟨A, c, rfl, -, -⟩ := o.form' (marks_len _ _)
  have HO := Lib.hid o; have HB := Lib.hid b; clear o b
  by_cases h0 : 0 < n
  · obtain ⟨g, rfl, hg, -, -⟩ := HO.out.cellAt (marks_len _ _) (k := 0) h0
    have hgw : w.heap.size ≤ g := (HO.out.lt g rfl).1
    go_wp2_with fail
    go_loopw [9] (fun i wr => ∃ (k : Nat) (zs : List Int), k ≤ n ∧ i = .int .i64 k ∧ Hid (Own wr w.heap.size (.slice (some ⟨g, 0, none⟩) n c) zs) ∧ Hid (zs.length = n) ∧ Hid (Below w.heap.size w wr) ∧ Hid (∀ j, j < k → gi zs j = bits .xor .i64 (j : Int) 1)) (fun i _ => n - (intOf i).toNat)
    case atStart => exact ⟨0, _, Nat.zero_le _, rfl, HO, marks_len _ _, HB, fun j hj => absurd hj (by omega)⟩
    case round =>
      obtain ⟨k, zs, hk, rfl, ho, hzl, hb, hall⟩ := hrel
      by_cases hlt : k < n
      · obtain ⟨g', hg, _, hc3, hf3⟩ := ho.out.cellAt hzl.out hlt
        simp only [Option.some.injEq, Addr.mk.injEq, and_true] at hg
        subst hg
        obtain ⟨x, hx⟩ : ∃ x, bits .xor .i64 (k : Int) 1 = x := ⟨_, rfl⟩
        have HS := Lib.hid (ho.out.stored hzl.out k x)
        go_wp2_with fail
        go_roundw
        case rel =>
          refine ⟨k + 1, _, by omega, by go_num, HS.out.1, by simpa [Hid] using hzl.out, hb.out.setCell hgw _, fun j hj => ?_⟩
          rw [gi_set _ _ _ _ (by rw [hzl.out]; exact hlt)]
          by_cases e : j = k
          · rw [if_pos e, e, hx]
          · rw [if_neg e]; exact hall.out j (by omega)
        case measure => simp [intOf]; omega
      · obtain rfl : k = n := by omega
        go_wp2_with fail
        go_ret
        refine ⟨_, rfl, ?_, hb.out⟩
        have e : zs = sbsL k := eq_of_gi (by rw [hzl.out, sbsL, tab_len]) (fun j hj => by rw [hzl.out] at hj; rw [hall.out j hj, sbsL, gi_tab hj])
        rw [← e]; exact ho.out
  · obtain rfl : n = 0 := by omega
    go_wp2_with fail
    go_loopw [9] (fun i wr => i = .int .i64 (0 : Nat) ∧ Hid (Own wr w.heap.size (.slice A 0 c) []) ∧ Hid (Below w.heap.size w wr)) (fun _ _ => 0)
    case atStart => exact ⟨rfl, HO, HB⟩
    case round =>
      obtain ⟨rfl, ho, hb⟩ := hrel
      go_wp2_with fail
      go_ret
      exact ⟨_, rfl, ho.out, hb.out⟩

/-- The darts of the quadrangulation: what they turn to. -/
def tqL (t a : List Int) : Nat → List Int
  | 0 => []
  | k + 1 => tqL t a k ++ [2 * gi t k, 2 * gi a k + 1]
theorem tqL_len (t a : List Int) : ∀ k, (tqL t a k).length = 2 * k
  | 0 => rfl
  | k + 1 => by rw [tqL, List.length_append, tqL_len t a k]; simp; omega
theorem gi_tqL (t a : List Int) : ∀ (k d : Nat), d < k → gi (tqL t a k) (2 * d) = 2 * gi t d ∧ gi (tqL t a k) (2 * d + 1) = 2 * gi a d + 1
  | 0, d, h => absurd h (by omega)
  | k + 1, d, h => by
    have hl := tqL_len t a k
    by_cases e : d = k
    · subst e
      constructor
      · rw [tqL, gi, List.getD, List.getElem?_append_right (by omega), hl]; simp
      · rw [tqL, gi, List.getD, List.getElem?_append_right (by omega), hl]; simp
    · obtain ⟨h1, h2⟩ := gi_tqL t a k d (by omega)
      constructor
      · rw [← h1, tqL, gi, List.getD, List.getElem?_append_left (by omega)]; rfl
      · rw [← h2, tqL, gi, List.getD, List.getElem?_append_left (by omega)]; rfl

def tqT (t f : List Int) : List Int := tqL t (backL (mulL f t)) t.length
set_option maxRecDepth 20000 in
set_option maxHeartbeats 1600000 in
theorem tutteQuad_any (bx : Nat) (A A' : Option Addr) (n c c' : Nat) (t f : List Int) (w : World) (hbx : Box2 w bx A n c A' n c') (h : Rd w A n t) (h' : Rd w A' n f) (hm : IsMap t f) :
    Calls Try.prog 38 #[.pointer (some ⟨bx, 0, none⟩)] w fun e w' => ∃ u u', e = .returned (.agg #[u, u']) ∧ OwnM w' w.heap.size u u' (tqT t f) (flipL n) ∧ Below w.heap.size w w' := by
  obtain ⟨i0, hinf, hz0, hz1, hz2⟩ := info_parts info_int
  have hn12 : n ≤ 12 := by rw [← h.1]; exact hm.turn.2.1
  have hn1 : 1 ≤ n := by rw [← h.1]; exact hm.turn.1
  obtain ⟨W0, hW0, hy, hb, hz⟩ := Box.local_ w 27 (.slice none 0 0) (.slice none 0 0)
  obtain ⟨n2, hn2⟩ : ∃ n2, 2 * n = n2 := ⟨_, rfl⟩
  have e2 : 2 * (n : Int) = (n2 : Int) := by omega
  have hn24 : n2 ≤ 24 := by omega
  have hft : Vld (mulL f t) := hm.flip.mulL hm.turn hm.len.symm
  have HX := Lib.hid (hbx.below hb); have HY := Lib.hid hy; have HB := Lib.hid hb; have HZ := Lib.hid hz; have H := Lib.hid h; have H' := Lib.hid h'; have HM := Lib.hid hm; have HN2 := Lib.hid hn2; have E2 := Lib.hid e2; have HFT := Lib.hid hft
  clear hbx hy hb hz h h' hm hn2 e2 hft
  go_enter Try.func38, Try.ntmps38
  go_wp2_with fail
  refine (faces_any bx A A' n c c' t f W0 HX.out (H.out.below HB.out) (H'.out.below HB.out) HM.out.flip).mono ?_
  rintro e w1 ⟨v, rfl, o, b⟩
  obtain ⟨A3, c3, rfl, -, -⟩ := o.form' ((mulL_len f t).trans H'.out.1)
  have HF := Lib.hid (o.rd ((mulL_len f t).trans H'.out.1))
  have HB1 := Lib.hid (HB.out.trans (b.mono HB.out.size)); have HX1 := Lib.hid (HX.out.below b); have HY1 := Lib.hid (HY.out.below b)
  clear o b
  go_wp2_with fail
  refine (back_any A3 n c3 (mulL f t) w1 HF.out (by omega) HFT.out).mono ?_
  rintro e w2 ⟨v, rfl, o, b⟩
  obtain ⟨al, hal⟩ : ∃ al, backL (mulL f t) = al := ⟨_, rfl⟩
  have hll : al.length = n := by rw [← hal, backL_len, mulL_len]; exact H'.out.1
  have hav : Vld al := by rw [← hal]; exact backL_vld HFT.out
  rw [hal] at o
  obtain ⟨A4, c4, rfl, -, -⟩ := o.form' hll
  have HA := Lib.hid (o.rd hll); have HAL := Lib.hid hal; have HLL := Lib.hid hll; have HAV := Lib.hid hav
  have HB2 := Lib.hid (HB1.out.trans (b.mono HB1.out.size)); have hx2 := HX1.out.below b; have HX2 := Lib.hid hx2; have HY2 := Lib.hid (HY1.out.below b)
  have c0 := hx2.cell0
  clear o b hal hll hav hx2
  go_wp2_with (at_make; rw [E2.out]; refine wpList_make_full _ rfl _ _ 22 rfl w2.heap.size 3 i0 (.int .i64 0) 1 Try.underlying22 hinf hz0 hz1 .i64 .i64 _ _ n2 rfl rfl rfl rfl (by rw [hz2]; omega) (by unfold maxLen; omega) (Nat.le_refl _) ?_; intro w3 hown3 hgrow3; have c03 := (HX2.out.below (below_of_grown hgrow3 (Nat.le_refl _) (fun k hk => by cases hk))).cell0)
  have hb3 : Below w2.heap.size w2 w3 := below_of_grown hgrow3 (Nat.le_refl _) (fun k hk => by cases hk)
  have ho3 : Own w3 w2.heap.size (.slice (some ⟨w2.heap.size, 0, none⟩) n2 n2) (List.replicate n2 0) := Own.made hown3
  have HB3 := Lib.hid (HB2.out.trans (hb3.mono HB2.out.size)); have hx3 := HX2.out.below hb3; have HY3 := Lib.hid (HY2.out.below hb3)
  have HO3 := Lib.hid ho3; have HX3 := Lib.hid hx3; have HA3 := Lib.hid (HA.out.below hb3); have hs3 := hb3.size
  have HBW : Hid (Below w2.heap.size w2 w3) := hb3
  clear c0 c03 hown3 hgrow3 hb3 ho3 hz0 hz1 hz2 hinf
  have c0 := hx3.cell0
  clear hx3
  have hsw := HB2.out.size
  have HYS : Hid (w.heap.size < w2.heap.size) := HY2.out.lt
  obtain ⟨G, hG⟩ : ∃ G, w2.heap.size = G := ⟨_, rfl⟩
  have HGG := Lib.hid hG
  rw [hG] at HO3 HBW hs3 hsw
  rw [hG]
  clear hG
  go_wp2_with fail
  go_loopw [21] (fun iv wr => ∃ (k : Nat) (zs : List Int), k ≤ n ∧ iv = .int .i64 k ∧ Hid (Own wr G (.slice (some ⟨G, 0, none⟩) n2 n2) zs) ∧ Hid (zs.length = n2) ∧ Hid (Below G w2 wr) ∧ Hid (∀ d, d < k → gi zs (2 * d) = 2 * gi t d ∧ gi zs (2 * d + 1) = 2 * gi al d + 1)) (fun iv _ => n - (intOf iv).toNat)
  case atStart => exact ⟨0, _, Nat.zero_le _, rfl, HO3.out, by simp [Hid], HBW.out, fun d hd => absurd hd (by omega)⟩
  case round =>
    obtain ⟨k, zs, hk, rfl, ho, hzl, hb, hall⟩ := hrel
    have hbw : Below w2.heap.size w2 wr := by rw [HGG.out]; exact hb.out
    have hxr := HX2.out.below hbw
    have c0 := hxr.cell0
    by_cases hlt : k < n
    · obtain ⟨ad, rfl, hct⟩ := ((H.out.below HB2.out).below hbw).at_ hlt
      obtain ⟨ad4, rfl, hca⟩ := (HA.out.below hbw).at_ hlt
      obtain ⟨x, hx, hxn, -⟩ := (HM.out.turn.into H.out.1).nat (j := k) (by rw [H.out.1]; exact hlt)
      obtain ⟨y, hy, hyn, -⟩ := (HAV.out.into HLL.out).nat (j := k) (by rw [HLL.out]; exact hlt)
      rw [hx] at hct
      rw [hy] at hca
      obtain ⟨k2, hk2⟩ : ∃ k2, 2 * k = k2 := ⟨_, rfl⟩
      have hn2k : k2 + 1 < n2 := by have := HN2.out; omega
      have hk2' : k2 < n2 := by omega
      obtain ⟨_, e1, _, hc1, hf1⟩ := ho.out.cellAt hzl.out hk2'
      simp only [Option.some.injEq, Addr.mk.injEq, and_true] at e1
      subst e1
      have hS1 := ho.out.stored hzl.out k2 (2 * (x : Int))
      have hzl1 : (zs.set k2 (2 * (x : Int))).length = n2 := by rw [List.length_set]; exact hzl.out
      obtain ⟨_, e2, _, hc2, hf2⟩ := hS1.1.cellAt hzl1 hn2k
      simp only [Option.some.injEq, Addr.mk.injEq, and_true] at e2
      subst e2
      have hS2 := hS1.1.stored hzl1 (k2 + 1) (2 * (y : Int) + 1)
      have hb1 : Below G w2 (wr.setCell ⟨G, k2, none⟩ (.int .i64 (2 * (x : Int)))) := hb.out.setCell (Nat.le_refl _) _
      have hbw1 : Below w2.heap.size w2 (wr.setCell ⟨G, k2, none⟩ (.int .i64 (2 * (x : Int)))) := by rw [HGG.out]; exact hb1
      obtain ⟨_, e4, hca1⟩ := (HA.out.below hbw1).at_ hlt
      simp only [Option.some.injEq] at e4
      subst e4
      rw [hy] at hca1
      have g1 : 2 * (k : Int) = (k2 : Int) := by omega
      have g1' : IntKind.i64.wrap (2 * (k : Int)) = (k2 : Int) := by rw [g1]; exact IntWalk.i64_in _ (by omega)
      have g2 : (2 * (k : Int)).toNat = k2 := by omega
      have HS2 := Lib.hid hS2; have HB1 := Lib.hid hb1; have HXX := Lib.hid hx; have HYY := Lib.hid hy; have HK2 := Lib.hid hk2; have HZ1 := Lib.hid hzl1
      clear hS1 hS2 hx hy hk2 hb1 hbw1 hbw hxr hzl1
      go_wp2_with fail
      go_roundw
      case rel =>
        refine ⟨k + 1, _, by omega, by go_num, HS2.out.1, by rw [Hid, List.length_set]; exact HZ1.out, HB1.out.setCell (Nat.le_refl _) _, fun d hd => ?_⟩
        have q2 := HK2.out
        have l1 := hzl.out; have l2 := HZ1.out
        constructor
        · rw [gi_set _ _ _ _ (by omega), gi_set _ _ _ _ (by omega)]
          by_cases e : d = k
          · subst e; rw [if_neg (by omega), if_pos (by omega), HXX.out]
          · rw [if_neg (by omega), if_neg (by omega)]; exact (hall.out d (by omega)).1
        · rw [gi_set _ _ _ _ (by omega), gi_set _ _ _ _ (by omega)]
          by_cases e : d = k
          · subst e; rw [if_pos (by omega), HYY.out]
          · rw [if_neg (by omega), if_neg (by omega)]; exact (hall.out d (by omega)).2
      case measure => simp [intOf]; omega
    · have hkn : k = n := by omega
      have hzq : zs = tqT t f := by
        have l0 := H.out.1
        refine eq_of_gi (by rw [hzl.out, tqT, tqL_len, l0]; exact HN2.out.symm) (fun j hj => ?_)
        rw [hzl.out] at hj
        rw [tqT, l0, HAL.out]
        have q2 := HN2.out
        obtain ⟨h1, h2⟩ := hall.out (j / 2) (by omega)
        obtain ⟨h3, h4⟩ := gi_tqL t al n (j / 2) (by omega)
        by_cases hp : j % 2 = 0
        · have : 2 * (j / 2) = j := by omega
          rw [this] at h1 h3
          rw [h1, h3]
        · have : 2 * (j / 2) + 1 = j := by omega
          rw [this] at h2 h4
          rw [h2, h4]
      have HZQ : Hid (Own wr G (.slice (some ⟨G, 0, none⟩) n2 n2) (tqT t f)) := by rw [Hid, ← hzq]; exact ho.out
      have HBR := Lib.hid hbw; have HYR := Lib.hid (HY2.out.below hbw)
      have HTL : Hid ((tqT t f).length = n2) := by rw [Hid, ← hzq]; exact hzl.out
      clear hkn hzq hbw hxr
      go_wp2_with fail
      refine (side_any n2 wr (by omega)).mono ?_
      rintro e w5 ⟨v, rfl, o, b⟩
      have hsb : sbsL n2 = flipL n := by rw [← HN2.out]; exact sbs_flip n (by omega)
      rw [hsb] at o
      obtain ⟨A6, c6, rfl, -, -⟩ := o.form' (n := n2) (by rw [flipL_len]; exact HN2.out)
      have hy5 := HYR.out.below b
      have d0 := hy5.cell0
      have d1 := hy5.cell1
      have d2 := hy5.frozen 0
      have d3 := hy5.frozen 1
      obtain ⟨hq1, hq2⟩ := hy5.store2 (.slice (some ⟨G, 0, none⟩) n2 n2) (.slice A6 n2 c6)
      have k0 := hq1.cell0
      have k1 := hq1.cell1
      have hgr : G < wr.heap.size := (HZQ.out.lt G rfl).2
      have HD := Lib.hid (pair_done (lo := G) (HZQ.out.below b) (o.mono (by omega)) (fun k hk hk' => by
        have hkg : k = G := by cases hk; rfl
        have := o.lt _ hk'; omega) ((HB2.out.trans (HBR.out.mono HB2.out.size)).trans (b.mono (Nat.le_trans HB2.out.size HBR.out.size))) hq2 (Nat.le_refl _) (by have e1 := HZ.out; have e2 := HB1.out.size; have e3 := HGG.out; have e4 := HYS.out; omega))
      clear hy5 hq1 hq2 o b hsb
      go_wp2_with fail
      exact bodyPost_ret (v := .agg #[.slice (some ⟨G, 0, none⟩) n2 n2, .slice A6 n2 c6]) (by simp [results, Try.results38, go_sem, k0, k1]) rfl ⟨_, _, rfl, HD.out.1, HD.out.2⟩

end Go.Proofs.Ytdbknfdpgooioaa
