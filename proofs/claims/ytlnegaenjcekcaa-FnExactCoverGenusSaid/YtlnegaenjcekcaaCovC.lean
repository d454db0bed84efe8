/-
  The cover of a voltage, the program's.
  CoverMap, CoverWhole: the program's.
-/
import Derived.Test.YtlnegaenjcekcaaCovT
import Derived.Deep.RegionHeld3
import Derived.Deep.DeepCutAuto
import Derived.Deep.OwnRows
import Derived.Test.YtlnegaenjcekcaaKitSS
import Derived.Test.YtlnegaenjcekcaaAdv
import Derived.Test.YtlnegaenjcekcaaCovV
namespace Go.Proofs.Ytlnegaenjcekcaa
open Go.RowKit
set_option linter.unusedVariables false

/-- A map of two rows of n noughts at block b, all made since there were lo blocks. -/
def Bare (w0 : World) (lo n : Nat) (v : Value) (w : World) : Prop := ∃ b g g' : Nat, v = .pointer (some ⟨b, 0, none⟩) ∧ Box w b 30 (.slice (some ⟨g, 0, none⟩) n n) (.slice (some ⟨g', 0, none⟩) n n) ∧ lo ≤ b ∧ b ≠ g ∧ b ≠ g' ∧ g ≠ g' ∧
  Own w lo (.slice (some ⟨g, 0, none⟩) n n) (List.replicate n 0) ∧ Own w lo (.slice (some ⟨g', 0, none⟩) n n) (List.replicate n 0) ∧ Below lo w0 w

theorem own_new (W : World) (lo n : Nat) (hl : lo ≤ W.heap.size) (hn : n ≤ 12) : Own (W.alloc (.cells (madeCells #[.int .i64 0] n) 3)) lo (.slice (some ⟨W.heap.size, 0, none⟩) n n) (List.replicate n 0) := by
  have h1 := World.ownsRow_lit (base := lo) (e := 3) (size := 1) W (madeCells #[.int .i64 0] n) n hl (by unfold maxLen; omega) (by simp [madeCells])
  unfold Own
  rw [toList_madeCells_one] at h1
  simpa [ints] using h1
theorem Own.alloc_ {W : World} {lo : Nat} {v : Value} {xs : List Int} (h : Own W lo v xs) (o : Obj) : Own (W.alloc o) lo v xs := h.below ((Below.refl _ _).alloc (Nat.le_refl _) o)
/-- The three makings, in any order. -/
structure Mkd (w W0 : World) (lo N : Nat) : Prop where
  r1 : ∀ Y Z, Own (((W0.alloc (.cells (madeCells #[.int .i64 0] N) 3)).alloc Y).alloc Z).drew lo (.slice (some ⟨W0.heap.size, 0, none⟩) N N) (List.replicate N 0)
  r2 : ∀ X Z, Own (((W0.alloc X).alloc (.cells (madeCells #[.int .i64 0] N) 3)).alloc Z).drew lo (.slice (some ⟨W0.heap.size + 1, 0, none⟩) N N) (List.replicate N 0)
  r3 : ∀ X Y, Own (((W0.alloc X).alloc Y).alloc (.cells (madeCells #[.int .i64 0] N) 3)).drew lo (.slice (some ⟨W0.heap.size + 1 + 1, 0, none⟩) N N) (List.replicate N 0)
  b1 : ∀ u u' Y Z, Box (((W0.alloc (.cells #[u, u'] 30)).alloc Y).alloc Z).drew W0.heap.size 30 u u'
  b2 : ∀ u u' X Z, Box (((W0.alloc X).alloc (.cells #[u, u'] 30)).alloc Z).drew (W0.heap.size + 1) 30 u u'
  b3 : ∀ u u' X Y, Box (((W0.alloc X).alloc Y).alloc (.cells #[u, u'] 30)).drew (W0.heap.size + 1 + 1) 30 u u'
  bb : ∀ X Y Z, Below lo w (((W0.alloc X).alloc Y).alloc Z).drew
  le : lo ≤ W0.heap.size
theorem mkd {w W0 : World} {lo N : Nat} (hb : Below lo w W0) (hl : lo ≤ W0.heap.size) (hN : N ≤ 12) : Mkd w W0 lo N where
  r1 Y Z := ((own_new W0 lo N hl hN).alloc_ Y).alloc_ Z
  r2 X Z := by
    have := (own_new (W0.alloc X) lo N (by rw [World.size_alloc]; omega) hN).alloc_ Z
    rw [World.size_alloc] at this; exact this
  r3 X Y := by
    have := own_new ((W0.alloc X).alloc Y) lo N (by rw [World.size_alloc, World.size_alloc]; omega) hN
    rw [World.size_alloc, World.size_alloc] at this; exact this
  b1 u u' Y Z := box_alloc (box_alloc (Box.new W0 _ u u'))
  b2 u u' X Z := by
    have := Box.new (W0.alloc X) 30 u u'
    rw [World.size_alloc] at this; exact box_alloc this
  b3 u u' X Y := by
    have := Box.new ((W0.alloc X).alloc Y) 30 u u'
    rw [World.size_alloc, World.size_alloc] at this; exact this
  bb X Y Z := (((hb.alloc hl X).alloc (by rw [World.size_alloc]; omega) Y).alloc (by rw [World.size_alloc, World.size_alloc]; omega) Z).drew
  le := hl

/-- The map while the cover is written: L darts of it stand. -/
def CvS (w wr : World) (lo bm g1 g2 N L : Nat) (ts fs : List Int) : Prop := ∃ zs1 zs2 : List Int, Own wr lo (.slice (some ⟨g1, 0, none⟩) N N) zs1 ∧ zs1.length = N ∧ (∀ j, j < L → gi zs1 j = gi ts j) ∧ Own wr lo (.slice (some ⟨g2, 0, none⟩) N N) zs2 ∧ zs2.length = N ∧ (∀ j, j < L → gi zs2 j = gi fs j) ∧ Box wr bm 30 (.slice (some ⟨g1, 0, none⟩) N N) (.slice (some ⟨g2, 0, none⟩) N N) ∧ Below lo w wr
theorem CvS.step {w wr : World} {lo bm g1 g2 N L u1 u2 : Nat} {ts fs : List Int} (h : CvS w wr lo bm g1 g2 N L ts fs) (hL : L < N) (h1 : gi ts L = (u1 : Int)) (h2 : gi fs L = (u2 : Int)) (hbm : bm ≠ g1 ∧ bm ≠ g2 ∧ g1 ≠ g2) :
    CvS w ((wr.setCell ⟨g1, L, none⟩ (.int .i64 u1)).drew.setCell ⟨g2, L, none⟩ (.int .i64 u2)).drew lo bm g1 g2 N (L + 1) ts fs := by
  obtain ⟨zs1, zs2, o1, l1, a1, o2, l2, a2, hx, hb⟩ := h
  have p1 := o1.stored l1 L (u1 : Int)
  have o2' : Own (wr.setCell ⟨g1, L, none⟩ (.int .i64 u1)) lo (.slice (some ⟨g2, 0, none⟩) N N) zs2 := o2.grown p1.2 (.inr (fun e => hbm.2.2 (by simpa [Value.ownBlock] using e.symm)))
  have p2 := (o2'.drewN 1).stored l2 L (u2 : Int)
  have o1' : Own ((wr.setCell ⟨g1, L, none⟩ (.int .i64 u1)).drewN 1 |>.setCell ⟨g2, L, none⟩ (.int .i64 u2)) lo (.slice (some ⟨g1, 0, none⟩) N N) (zs1.set L u1) := (p1.1.drewN 1).grown p2.2 (.inr (fun e => hbm.2.2 (by simpa [Value.ownBlock] using e)))
  have b1 : Box (wr.setCell ⟨g1, L, none⟩ (.int .i64 u1)) bm 30 (.slice (some ⟨g1, 0, none⟩) N N) (.slice (some ⟨g2, 0, none⟩) N N) := hx.kept_ p1.2 (fun e => hbm.1 (by injection e with e; exact e.symm))
  have b2 := (b1.drewN 1).kept_ p2.2 (fun e => hbm.2.1 (by injection e with e; exact e.symm))
  refine ⟨_, _, o1', by rw [List.length_set]; exact l1, fun j hj => ?_, p2.1, by rw [List.length_set]; exact l2, fun j hj => ?_, b2, (((hb.setCell (o1.lt g1 rfl).1 _).drew).setCell (o2.lt g2 rfl).1 _).drew⟩
  · rw [gi_set_ _ _ _ _ (by omega)]
    by_cases e : j = L
    · rw [if_pos e, e, h1]
    · rw [if_neg e]; exact a1 j (by omega)
  · rw [gi_set_ _ _ _ _ (by omega)]
    by_cases e : j = L
    · rw [if_pos e, e, h2]
    · rw [if_neg e]; exact a2 j (by omega)

set_option maxRecDepth 20000 in
set_option maxHeartbeats 6400000 in
theorem cover_any (w : World) (b : Nat) (t f : List Int) (k : Nat) (vss : List (List Int)) (hv : Volt t f k vss) (h : VAt w b t f k vss) {q : Bool} (hq : mapV (covT t k) (covF f vss k) = q) :
    Calls Try.prog 61 #[.pointer (some ⟨b, 0, none⟩)] w fun e w' => ∃ ci, e = .returned ci ∧ Below w.heap.size w w' ∧
      ((q = false ∧ ci = .iface 112 (.agg #[])) ∨ (q = true ∧ ∃ u u', ci = .iface 96 (.agg #[u, u', .pointer (some ⟨b, 0, none⟩)]) ∧ OwnM w' w.heap.size u u' (covT t k) (covF f vss k))) := by
  obtain ⟨n, hn⟩ : ∃ n, f.length = n := ⟨_, rfl⟩
  obtain ⟨A, c, A', c', lo, g, cg, hvb, hr1, hr2, hal⟩ := (show ∃ (A : Option Addr) (c : Nat) (A' : Option Addr) (c' lo g cg : Nat), VBox w b A n c A' n c' k g cg ∧ Rd w A n t ∧ Rd w A' n f ∧ Alg w lo g n cg (fun j => some (dV f vss j)) by subst hn; exact h)
  have htl : t.length = n := by rw [hv.map.len, hn]
  have hn12 : n ≤ 12 := by rw [← hn]; exact hv.map.flip.2.1
  have hk1 := hv.one
  have hk6 := hv.six
  obtain ⟨N, hN⟩ : ∃ N, n * k = N := ⟨_, rfl⟩
  have hN12 : N ≤ 12 := by have := hv.few; rw [htl, Nat.mul_comm] at this; omega
  have gN : IntKind.i64.wrap ((k : Int) * (n : Int)) = (N : Int) := by rw [← Int.natCast_mul, Nat.mul_comm, hN]; exact IntWalk.i64_in _ (by omega)
  have gN' : (k : Int) * (n : Int) = (N : Int) := by rw [← Int.natCast_mul, Nat.mul_comm, hN]
  have HLT : Hid ((covT t k).length = N) := by rw [Hid, covT_len, htl, hN]
  have HLF : Hid ((covF f vss k).length = N) := by rw [Hid, covF_len, hn, hN]
  have HDV : Hid (∀ j, j < n → Vld (dV f vss j) ∧ (dV f vss j).length = k) := fun j hj => hv.dV (by omega)
  have HNN := Lib.hid hn; have HTL := Lib.hid htl; have HNK := Lib.hid hN; have HVO := Lib.hid hv; have HVB := Lib.hid hvb; have H1 := Lib.hid hr1; have H2 := Lib.hid hr2; have HAL := Lib.hid hal; have HQ := Lib.hid hq
  have hbl := hvb.lt
  have c2 := hvb.cell2; have c3 := hvb.cell3
  clear hv h hn hvb hr1 hr2 hal htl hN hq
  go_enter Try.func61, Try.ntmps61
  go_wp2_with fail
  go_quiet (fail)
  obtain ⟨W0, hW0⟩ : ∃ W0, w.drewN nq = W0 := ⟨_, rfl⟩
  rw [hW0]
  have HB0 : Hid (Below w.heap.size w W0) := hW0 ▸ below_drewN (Below.refl _ w) nq
  have hsz0 : W0.heap.size = w.heap.size := by rw [← hW0]; rfl
  have HS0 := Lib.hid hsz0
  clear hW0 hsz0 c2 c3
  have hrun : ∀ W : World, (Instr.makeSlice 22 (.int .i64 (N : Int)) (.int .i64 (N : Int))).run Try.prog W = .ok (.slice (some ⟨W.heap.size, 0, none⟩) N N) (W.alloc (.cells (madeCells #[.int .i64 0] N) 3)) := run_make_row' (P := Try.prog) 22 3 (.int .i64 0) 8 Try.underlying22 info_int rfl .i64 .i64 N (by omega) (by omega)
  go_upto_region 2 with fail
  go_cut [4] (fun v wx => Bare w w.heap.size N v wx)
  case first =>
    have HMK := Lib.hid (mkd HB0.out (by rw [HS0.out]; exact Nat.le_refl _) hN12)
    have HLE := Lib.hid (Nat.le_of_eq HS0.out.symm)
    go_region
    all_goals
      go_wp2_with fail
      go_meet
      case rel =>
        have hle := HLE.out
        first
        | exact ⟨_, _, _, rfl, HMK.out.b3 _ _ _ _, by omega, by omega, by omega, by omega, HMK.out.r1 _ _, HMK.out.r2 _ _, HMK.out.bb _ _ _⟩
        | exact ⟨_, _, _, rfl, HMK.out.b3 _ _ _ _, by omega, by omega, by omega, by omega, HMK.out.r2 _ _, HMK.out.r1 _ _, HMK.out.bb _ _ _⟩
        | exact ⟨_, _, _, rfl, HMK.out.b2 _ _ _ _, by omega, by omega, by omega, by omega, HMK.out.r1 _ _, HMK.out.r3 _ _, HMK.out.bb _ _ _⟩
        | exact ⟨_, _, _, rfl, HMK.out.b2 _ _ _ _, by omega, by omega, by omega, by omega, HMK.out.r3 _ _, HMK.out.r1 _ _, HMK.out.bb _ _ _⟩
        | exact ⟨_, _, _, rfl, HMK.out.b1 _ _ _ _, by omega, by omega, by omega, by omega, HMK.out.r2 _ _, HMK.out.r3 _ _, HMK.out.bb _ _ _⟩
        | exact ⟨_, _, _, rfl, HMK.out.b1 _ _ _ _, by omega, by omega, by omega, by omega, HMK.out.r3 _ _, HMK.out.r2 _ _, HMK.out.bb _ _ _⟩
  case rest =>
    obtain ⟨bm, g1, g2, rfl, hbx, hbm, hne1, hne2, hne3, o1, o2, hbb⟩ := hcut
    have hg1 := (o1.lt g1 rfl).1
    have hg2 := (o2.lt g2 rfl).1
    have HNE : Hid (bm ≠ g1 ∧ bm ≠ g2 ∧ g1 ≠ g2) := ⟨hne1, hne2, hne3⟩
    have HS := Lib.hid (show CvS w wc w.heap.size bm g1 g2 N 0 (covT t k) (covF f vss k) from ⟨_, _, o1, by simp, fun j hj => absurd hj (by omega), o2, by simp, fun j hj => absurd hj (by omega), hbx, hbb⟩)
    have c3 := (HVB.out.over hbb hbl).cell3
    clear hrun hbx o1 o2 hbb gN gN' HB0 HS0 hne1 hne2 hne3
    go_wp2_with fail
    clear c3
    go_loopw [5, 6, 7, 8, 9, 30] (fun _ _ _ _ _ iv wr => ∃ x : Nat, x ≤ n ∧ iv = .int .i64 x ∧ Hid (CvS w wr w.heap.size bm g1 g2 N (k * x) (covT t k) (covF f vss k))) (fun _ _ _ _ _ iv _ => n - (intOf iv).toNat)
    case atStart => exact ⟨0, Nat.zero_le _, rfl, HS⟩
    case round =>
      clear HS
      obtain ⟨x, hx, rfl, hs⟩ := hrel
      by_cases hlt : x < n
      · obtain ⟨P, hP⟩ : ∃ P, k * x = P := ⟨_, rfl⟩
        have hPN : P + k ≤ N := by rw [← hP, ← HNK.out, Nat.mul_comm n k, ← Nat.mul_succ]; exact Nat.mul_le_mul_left k hlt
        have HPS : Hid (P + k = k * (x + 1)) := by rw [Hid, ← hP, Nat.mul_succ]
        obtain ⟨a, ha⟩ : ∃ a, dV f vss x = a := ⟨_, rfl⟩
        have hav := HDV.out x hlt
        rw [ha] at hav
        have hb : Hid (Below w.heap.size w wr) := by obtain ⟨_, _, _, _, _, _, _, _, _, h⟩ := hs.out; exact h
        have hcx : ∃ Ax cx, wr.cell? ((⟨g, 0, none⟩ : Addr).add x) = some (.slice Ax k cx) ∧ Rd w Ax k a := by
          obtain ⟨Ax, cx, h1, h2⟩ := HAL.out.at_ hlt (p := a) (by rw [ha]) hav.2
          rw [show (⟨g, 0, none⟩ : Addr).add x = ⟨g, x, none⟩ from by unfold Addr.add; split <;> simp_all]
          exact ⟨Ax, cx, (hb.out.cell (World.block_lt_of_cell? w _ h1)).trans h1, h2⟩
        obtain ⟨Ax, cx, hcx, hrx⟩ := hcx
        have hcx' : wr.cell? ⟨g, x, none⟩ = some (.slice Ax k cx) := by
          rw [show (⟨g, 0, none⟩ : Addr).add x = ⟨g, x, none⟩ from by unfold Addr.add; split <;> simp_all] at hcx
          exact hcx
        rw [hP] at hs
        obtain ⟨tx, htx, htn, hgt⟩ := (HVO.out.map.turn.into HTL.out).nat (j := x) (by rw [HTL.out]; exact hlt)
        obtain ⟨fx, hfx, hfn, hgf⟩ := (HVO.out.map.flip.into HNN.out).nat (j := x) (by rw [HNN.out]; exact hlt)
        obtain ⟨P1, hP1⟩ : ∃ P1, k * tx = P1 := ⟨_, rfl⟩
        obtain ⟨P2, hP2⟩ : ∃ P2, k * fx = P2 := ⟨_, rfl⟩
        have hP1N : P1 + k ≤ N := by rw [← hP1, ← HNK.out, Nat.mul_comm n k, ← Nat.mul_succ]; exact Nat.mul_le_mul_left k htn
        have hP2N : P2 + k ≤ N := by rw [← hP2, ← HNK.out, Nat.mul_comm n k, ← Nat.mul_succ]; exact Nat.mul_le_mul_left k hfn
        have HPP := Lib.hid hP; have HP1 := Lib.hid hP1; have HP2 := Lib.hid hP2; have HAV := Lib.hid hav; have HAD := Lib.hid ha; have HRX := Lib.hid hrx; have HGT := Lib.hid hgt; have HGF := Lib.hid hgf; have HTX := Lib.hid htx; have HFX := Lib.hid hfx
        clear hP ha hav hrx htx hfx hgt hgf hP1 hP2
        go_wp2_with fail
        clear hcx hcx'
        go_loopw [7, 8, 9, 37] (fun _ _ _ sv wr => ∃ s : Nat, s ≤ k ∧ sv = .int .i64 s ∧ Hid (CvS w wr w.heap.size bm g1 g2 N (P + s) (covT t k) (covF f vss k))) (fun _ _ _ sv _ => k - (intOf sv).toNat)
        case atStart => exact ⟨0, Nat.zero_le _, rfl, hs⟩
        case round =>
          clear hs hb
          obtain ⟨s, hsk, rfl, hs⟩ := hrel
          by_cases hlt2 : s < k
          · obtain ⟨zs1, zs2, ho1, hl1, -, ho2, hl2, -, hbx, hb⟩ := id hs.out
            obtain ⟨y, hy, hyn, hgy⟩ := (HAV.out.1.into HAV.out.2).nat (j := s) (by rw [HAV.out.2]; exact hlt2)
            obtain ⟨adX, rfl, hca⟩ := (HRX.out.below hb).at_ hlt2
            rw [hy] at hca
            obtain ⟨L, hL⟩ : ∃ L, P + s = L := ⟨_, rfl⟩
            obtain ⟨u1, hu1⟩ : ∃ u1, P1 + s = u1 := ⟨_, rfl⟩
            obtain ⟨u2, hu2⟩ : ∃ u2, P2 + y = u2 := ⟨_, rfl⟩
            have hLN : L < N := by omega
            have hu1N : u1 ≤ 1048576 := by omega
            have hu2N : u2 ≤ 1048576 := by omega
            have HV1 : Hid (gi (covT t k) L = (u1 : Int)) := by rw [Hid, ← hL, ← HPP.out, gi_covT (by rw [HTL.out]; exact hlt) hlt2, HGT.out, HP1.out, hu1]
            have HV2 : Hid (gi (covF f vss k) L = (u2 : Int)) := by rw [Hid, ← hL, ← HPP.out, gi_covF (by rw [HNN.out]; exact hlt) hlt2, HGF.out, HAD.out, hgy, HP2.out, hu2]
            have HLL := Lib.hid hL; have HU1 := Lib.hid hu1; have HU2 := Lib.hid hu2
            have HVr := Lib.hid (HVB.out.over hb hbl)
            obtain ⟨_, e1, -, hc1, hf1⟩ := ho1.cellAt hl1 hLN
            injection e1 with e1; injection e1 with e1; subst e1
            obtain ⟨_, e1, -, hc2, hf2⟩ := ho2.cellAt hl2 hLN
            injection e1 with e1; injection e1 with e1; subst e1
            obtain ⟨adT, rfl, hcT⟩ := (H1.out.below hb).at_ hlt
            rw [HTX.out] at hcT
            obtain ⟨adF, rfl, hcF⟩ := (H2.out.below hb).at_ hlt
            rw [HFX.out] at hcF
            have hbT : (adT.add x).block < w.heap.size := by
              obtain ⟨_, e, h⟩ := H1.out.at_ hlt
              injection e with e; rw [e]; exact World.block_lt_of_cell? w _ h
            have hbF : (adF.add x).block < w.heap.size := by
              obtain ⟨_, e, h⟩ := H2.out.at_ hlt
              injection e with e; rw [e]; exact World.block_lt_of_cell? w _ h
            have HNT : Hid ((adT.add x).block ≠ g1 ∧ (adF.add x).block ≠ g1 ∧ (adF.add x).block ≠ g2 ∧ b ≠ g1 ∧ b ≠ g2) := ⟨by omega, by omega, by omega, by omega, by omega⟩
            have m0 := hbx.cell0
            have m1 := hbx.cell1
            have v0 := HVr.out.at_.cell0
            have v1 := HVr.out.at_.cell1
            have v2 := HVr.out.cell2
            have HM1 := Lib.hid m1; have HW1 := Lib.hid v1; have HW2 := Lib.hid v2; have HCF := Lib.hid hcF; have HC2 := Lib.hid hc2; have HF2 := Lib.hid hf2
            rw [hL] at hs
            clear hy hgy hL hu1 hu2 ho1 hl1 ho2 hl2 hbx hb hbT hbF m1 v1 hcF hc2 hf2
            go_wp2_with (go_at_call 79; refine (dart_any wr b k x s P L HVr.out.cell2 HPP.out HLL.out (by omega)).mono ?_; rintro e w3 ⟨rfl, rfl⟩)
            go_region_held3 (fun w' => w'.cell? ⟨bm, 0, none⟩ = some (.slice (some ⟨g1, 0, none⟩) N N) ∧ w'.cell? ⟨b, 0, none⟩ = some (.slice (some adT) n c) ∧ w'.cell? (adT.add x) = some (.int .i64 tx)) (first
                | exact ⟨m0, v0, hcT⟩ | exact ⟨setS m0 HNE.out.1, setS v0 HNT.out.2.2.2.1, setS hcT HNT.out.1⟩) (first | (go_at_call 79; (refine (dart_any _ b k tx s P1 u1 (by exact HW2.out) HP1.out HU1.out (by omega)).mono ?_; rintro e w4 ⟨rfl, rfl⟩)))
            obtain ⟨W2, hW2⟩ : ∃ W2, (wr.setCell ⟨g1, L, none⟩ (.int .i64 u1)).drew = W2 := ⟨_, rfl⟩
            have m1 : W2.cell? ⟨bm, 1, none⟩ = some (.slice (some ⟨g2, 0, none⟩) N N) := by rw [← hW2]; exact setS HM1.out HNE.out.1
            have v1 : W2.cell? ⟨b, 1, none⟩ = some (.slice (some adF) n c') := by rw [← hW2]; exact setS HW1.out HNT.out.2.2.2.1
            have v2 : W2.cell? ⟨b, 2, none⟩ = some (.int .i64 k) := by rw [← hW2]; exact setS HW2.out HNT.out.2.2.2.1
            have hcF : W2.cell? (adF.add x) = some (.int .i64 fx) := by rw [← hW2]; exact setS HCF.out HNT.out.2.1
            have hc2 : W2.cell? ⟨g2, L, none⟩ = some (.int .i64 (gi zs2 L)) := by rw [← hW2]; exact setS HC2.out (fun e => HNE.out.2.2 e.symm)
            have hf2 : W2.frozen? ⟨g2, L, none⟩ = false := by rw [← hW2]; show ((wr.setCell ⟨g1, L, none⟩ (.int .i64 u1)).frozen? _ = false); rw [World.frozen?_setCell]; exact HF2.out
            have HW22 := Lib.hid v2; have HE2 := Lib.hid hW2
            clear v2 m0 v0 hcT hc1 hf1
            rw [hW2]
            clear hW2
            go_wp2_with fail
            go_region_held3 (fun w' => w'.cell? ⟨bm, 1, none⟩ = some (.slice (some ⟨g2, 0, none⟩) N N) ∧ w'.cell? ⟨b, 1, none⟩ = some (.slice (some adF) n c') ∧ w'.cell? (adF.add x) = some (.int .i64 fx)) (first
                | exact ⟨m1, v1, hcF⟩ | exact ⟨setS m1 HNE.out.2.1, setS v1 HNT.out.2.2.2.2, setS hcF HNT.out.2.2.1⟩) (first | (go_at_call 79; (refine (dart_any _ b k fx y P2 u2 (by exact HW22.out) HP2.out HU2.out (by omega)).mono ?_; rintro e w4 ⟨rfl, rfl⟩)))
            go_wp2_with fail
            go_roundw
            case rel =>
              have h0 := hs.out.step hLN HV1.out HV2.out HNE.out
              rw [HE2.out, show L + 1 = P + (s + 1) from by have := HLL.out; omega] at h0
              exact ⟨s + 1, by omega, by go_num, h0⟩
            case measure => simp [intOf]; omega
          · have hse : s = k := by omega
            rw [hse, HPS.out] at hs
            clear hse
            go_wp2_with fail
            go_roundw
            case rel => exact ⟨x + 1, by omega, by go_num, hs⟩
            case measure => simp [intOf]; omega
      · have hxn : x = n := by omega
        rw [hxn, Nat.mul_comm, HNK.out] at hs
        obtain ⟨zs1, zs2, ho1, hl1, ha1, ho2, hl2, ha2, hbx, hb⟩ := hs.out
        have e1 : zs1 = covT t k := eq_of_gi (by rw [hl1, HLT.out]) fun j hj => ha1 j (by omega)
        have e2 : zs2 = covF f vss k := eq_of_gi (by rw [hl2, HLF.out]) fun j hj => ha2 j (by omega)
        rw [e1] at ho1; rw [e2] at ho2
        have HO1 := Lib.hid ho1; have HO2 := Lib.hid ho2; have HB := Lib.hid hb; have HX := Lib.hid hbx
        clear hxn hs ho1 ho2 ha1 ha2 hl1 hl2 hb hbx e1 e2
        cases q with
        | false =>
          go_wp2_with (go_at_call 75; refine (valid_lit bm (some ⟨g1, 0, none⟩) (some ⟨g2, 0, none⟩) N N N N (covT t k) (covF f vss k) wr HX.out (HO1.out.rd HLT.out) (HO2.out.rd HLF.out) (by omega) (by omega) HQ.out).mono ?_; rintro e w1 ⟨rfl, b⟩; have HB1 := Lib.hid (HB.out.trans (b.mono HB.out.size)); clear b)
          go_ret
          first
            | exact ⟨rfl, HB1.out⟩ | exact ⟨_, rfl, HB1.out, rfl⟩ | exact ⟨_, rfl, HB1.out, .inl ⟨rfl, rfl⟩⟩
        | true =>
          go_wp2_with (go_at_call 75; refine (valid_lit bm (some ⟨g1, 0, none⟩) (some ⟨g2, 0, none⟩) N N N N (covT t k) (covF f vss k) wr HX.out (HO1.out.rd HLT.out) (HO2.out.rd HLF.out) (by omega) (by omega) HQ.out).mono ?_; rintro e w1 ⟨rfl, b⟩; have HB1 := Lib.hid (HB.out.trans (b.mono HB.out.size)); have HP1 := Lib.hid (HO1.out.below b); have HP2 := Lib.hid (HO2.out.below b); have m0 := (HX.out.below b).cell0; have m1 := (HX.out.below b).cell1; clear b)
          go_ret
          exact ⟨_, rfl, HB1.out, _, _, rfl, HP1.out, HP2.out, fun q e e' => HNE.out.2.2 (by simp only [Value.ownBlock, Option.some.injEq] at e e'; omega)⟩

end Go.Proofs.Ytlnegaenjcekcaa

namespace Go.Proofs.Ytlnegaenjcekcaa
open Go.RowKit
set_option linter.unusedVariables false

theorem cmR_off {t f : List Int} {k : Int} {vss : List (List Int)} (h : cwB t f k vss = false) : cmR t f k vss = (false, [], []) := by rw [cmR, if_neg (by rw [h]; decide)]
theorem cwB_off {t f : List Int} {k : Int} {vss : List (List Int)} (h : vvB t f k vss = false) : cwB t f k vss = false := by rw [cwB, h, Bool.false_and]
theorem pair_done' {w w2 w3 : World} {lo : Nat} {u u' : Value} {t f : List Int} {b : Nat} (o : OwnM w2 lo u u' t f) (hl : w.heap.size ≤ lo) (hg : w2.grownBy w3 (some b)) (hbl : b < lo) (hwb : w.heap.size ≤ b) (hB : Below w.heap.size w w2) (hbz : b < w2.heap.size) : OwnM w3 w.heap.size u u' t f ∧ Below w.heap.size w w3 := by
  refine ⟨OwnM.mono ⟨o.turn.grown hg ?_, o.flip.grown hg ?_, o.apart⟩ hl, hB.grown hg (by omega) (fun q hq => by cases hq; omega)⟩
  · refine .inr fun e => ?_
    have := (o.turn.lt b (by rw [e])).1; omega
  · refine .inr fun e => ?_
    have := (o.flip.lt b (by rw [e])).1; omega

@[go_sem] theorem asWhole (v : Value) (W : World) : (Instr.typeAssert (.iface 96 v) 79 96 true).run Try.prog W = .ok (.tuple #[v, .bool true]) W := by kernel_rfl
@[go_sem] theorem asApart (v : Value) (W : World) : (Instr.typeAssert (.iface 112 v) 79 96 true).run Try.prog W = .ok (.tuple #[.agg #[.slice none 0 0, .slice none 0 0, .pointer none], .bool false]) W := by kernel_rfl

set_option maxRecDepth 20000 in
set_option maxHeartbeats 6400000 in
theorem impl_cmR (w : World) (A A' : Option Addr) (n n' c c' : Nat) (t f : List Int) (h : Rd w A n t) (h' : Rd w A' n' f) (hn : n ≤ 1048576) (hn' : n' ≤ 1048576) (k : Int) (B : Option Addr) (m d : Nat) (vss : List (List Int)) (hs : RdSS w B m vss) (hm : m ≤ 1048576) (htot : total vss ≤ 1048576) {ok : Bool} {yt yf : List Int} (hR : cmR t f k vss = (ok, yt, yf)) :
    Calls Try.prog 38 #[.agg #[.slice A n c, .slice A' n' c'], .int .i64 k, .slice B m d] w fun e w' => ∃ u u', e = .returned (.tuple #[.agg #[u, u'], .bool ok]) ∧ OwnM w' w.heap.size u u' yt yf ∧ Below w.heap.size w w' := by
  obtain ⟨W0, hW0, hx, hy, hb, hz⟩ := two_boxes w 30 30 (.slice A n c) (.slice A' n' c') (.slice none 0 0) (.slice none 0 0)
  have c0 := hx.cell0
  have c1 := hx.cell1
  have HY := Lib.hid hy; have HB := Lib.hid hb; have HZ := Lib.hid hz; have H := Lib.hid h; have H' := Lib.hid h'; have HR := Lib.hid hR; have HS := Lib.hid hs; clear hx hy hb hz h h' hR hs
  have HNO : Hid (∀ w1 : World, Below W0.heap.size W0 w1 → OwnM ((w1.setCell ⟨w.heap.size + 1, 0, none⟩ (.slice none 0 0)).setCell ⟨w.heap.size + 1, 1, none⟩ (.slice none 0 0)) w.heap.size (.slice none 0 0) (.slice none 0 0) [] [] ∧ Below w.heap.size w ((w1.setCell ⟨w.heap.size + 1, 0, none⟩ (.slice none 0 0)).setCell ⟨w.heap.size + 1, 1, none⟩ (.slice none 0 0)) ∧ Box ((w1.setCell ⟨w.heap.size + 1, 0, none⟩ (.slice none 0 0)).setCell ⟨w.heap.size + 1, 1, none⟩ (.slice none 0 0)) (w.heap.size + 1) 30 (.slice none 0 0) (.slice none 0 0)) := by
    intro w1 b
    obtain ⟨hq1, hq2⟩ := (HY.out.below b).store2 (.slice none 0 0) (.slice none 0 0)
    exact ⟨OwnM.nil_ _ _, (HB.out.trans (b.mono HB.out.size)).grown hq2 (by have := HB.out.size; have := HZ.out; have := b.size; omega) (fun k hk => by cases hk; omega), hq1⟩
  cases hv : vvB t f k vss with
  | false =>
    obtain ⟨rfl, rfl, rfl⟩ : ok = false ∧ yt = [] ∧ yf = [] := by have := HR.out; rw [cmR_off (cwB_off hv)] at this; simpa [eq_comm] using this
    have HV := Lib.hid hv; clear hv
    go_enter Try.func38, Try.ntmps38
    go_wp2_with fail
    refine (voltageOf_any W0 A A' n n' c c' t f (H.out.below HB.out) (H'.out.below HB.out) hn hn' k B m d vss (HS.out.below HB.out) hm htot HV.out).mono ?_
    rintro e w1 ⟨p, rfl, bl, -⟩
    obtain ⟨ho, hbw, hbx⟩ := HNO.out w1 bl
    have hy1 := HY.out.below bl
    have e0 := hy1.cell0
    have e1 := hy1.cell1
    have e2 := hy1.frozen 0
    have e3 := hy1.frozen 1
    have k0 := hbx.cell0
    have k1 := hbx.cell1
    have HO := Lib.hid ho; have HBW := Lib.hid hbw
    clear ho hbw hbx bl hy1 c0 c1
    go_wp2_with fail
    exact bodyPost_ret (v := .tuple #[.agg #[.slice none 0 0, .slice none 0 0], .bool false]) (by simp [results, Try.results38, go_sem, k0, k1]) rfl ⟨_, _, rfl, HO.out, HBW.out⟩
  | true =>
    obtain ⟨kn, rfl, hvt⟩ := Volt_of hv
    obtain ⟨q, hq⟩ : ∃ q, mapV (covT t kn) (covF f vss kn) = q := ⟨_, rfl⟩
    have HV := Lib.hid hv; have HVT := Lib.hid hvt; have HQ := Lib.hid hq
    have HCW : Hid (cwB t f (kn : Int) vss = q) := by rw [Hid, cwB, hv, Bool.true_and, Int.toNat_natCast, hq]
    clear hv hvt hq
    cases q with
    | false =>
      obtain ⟨rfl, rfl, rfl⟩ : ok = false ∧ yt = [] ∧ yf = [] := by have := HR.out; rw [cmR_off HCW.out] at this; simpa [eq_comm] using this
      go_enter Try.func38, Try.ntmps38
      go_wp2_with fail
      refine (voltageOf_any W0 A A' n n' c c' t f (H.out.below HB.out) (H'.out.below HB.out) hn hn' (kn : Int) B m d vss (HS.out.below HB.out) hm htot HV.out).mono ?_
      rintro e w1 ⟨p, rfl, bl, hbx⟩
      obtain ⟨b, kn', rfl, e', hva⟩ := hbx rfl
      obtain rfl : kn' = kn := by omega
      have BL := Lib.hid bl; have HVA := Lib.hid hva
      clear bl hva e' hbx c0 c1
      go_wp2_with fail
      refine (cover_any w1 b t f kn' vss HVT.out HVA.out HQ.out).mono ?_
      rintro e w2 ⟨ci, rfl, b2, hci⟩
      have hci' : ci = .iface 112 (.agg #[]) := by
        obtain ⟨-, e⟩ | ⟨h, -⟩ := hci
        · exact e
        · exact absurd h (by decide)
      subst hci'
      clear hci
      have bl2 : Below W0.heap.size W0 w2 := BL.out.trans (b2.mono BL.out.size)
      obtain ⟨ho, hbw, hbx⟩ := HNO.out w2 bl2
      have hy1 := HY.out.below bl2
      have e0 := hy1.cell0
      have e1 := hy1.cell1
      have e2 := hy1.frozen 0
      have e3 := hy1.frozen 1
      have k0 := hbx.cell0
      have k1 := hbx.cell1
      have HO := Lib.hid ho; have HBW := Lib.hid hbw
      clear ho hbw hbx bl2 b2 hy1
      go_wp2_with fail
      exact bodyPost_ret (v := .tuple #[.agg #[.slice none 0 0, .slice none 0 0], .bool false]) (by simp [results, Try.results38, go_sem, k0, k1]) rfl ⟨_, _, rfl, HO.out, HBW.out⟩
    | true =>
      obtain ⟨rfl, rfl, rfl⟩ : ok = true ∧ yt = covT t kn ∧ yf = covF f vss kn := by have := HR.out; rw [cmR, if_pos HCW.out, Int.toNat_natCast] at this; simpa [eq_comm] using this
      go_enter Try.func38, Try.ntmps38
      go_wp2_with fail
      refine (voltageOf_any W0 A A' n n' c c' t f (H.out.below HB.out) (H'.out.below HB.out) hn hn' (kn : Int) B m d vss (HS.out.below HB.out) hm htot HV.out).mono ?_
      rintro e w1 ⟨p, rfl, bl, hbx⟩
      obtain ⟨b, kn', rfl, e', hva⟩ := hbx rfl
      obtain rfl : kn' = kn := by omega
      have BL := Lib.hid bl; have HVA := Lib.hid hva
      clear bl hva e' hbx c0 c1
      go_wp2_with fail
      refine (cover_any w1 b t f kn' vss HVT.out HVA.out HQ.out).mono ?_
      rintro e w2 ⟨ci, rfl, b2, hci⟩
      obtain ⟨h, -⟩ | ⟨-, u, u', rfl, o⟩ := hci
      · exact absurd h (by decide)
      obtain ⟨l1, hl1⟩ : ∃ l, (covT t kn').length = l := ⟨_, rfl⟩
      obtain ⟨l2, hl2⟩ : ∃ l, (covF f vss kn').length = l := ⟨_, rfl⟩
      obtain ⟨A5, c5, rfl, -, -⟩ := o.turn.form' hl1
      obtain ⟨A6, c6, rfl, -, -⟩ := o.flip.form' hl2
      have bl2 : Below W0.heap.size W0 w2 := BL.out.trans (b2.mono BL.out.size)
      obtain ⟨W3, hW3⟩ : ∃ W3, w2.alloc (.cells #[.slice A5 l1 c5, .slice A6 l2 c6, .pointer (some ⟨b, 0, none⟩)] 96) = W3 := ⟨_, rfl⟩
      have hba : Below w2.heap.size w2 W3 := hW3 ▸ (Below.refl _ _).alloc (Nat.le_refl _) _
      have hnb : W3.heap[w2.heap.size]? = some (.cells #[.slice A5 l1 c5, .slice A6 l2 c6, .pointer (some ⟨b, 0, none⟩)] 96 (0, 0)) := by rw [← hW3]; exact heap_alloc_new _ _
      have n0 : W3.cell? ⟨w2.heap.size, 0, none⟩ = some (.slice A5 l1 c5) := by rw [cell_of_row W3 _ 0 _ _ (0, 0) hnb]; rfl
      have n1 : W3.cell? ⟨w2.heap.size, 1, none⟩ = some (.slice A6 l2 c6) := by rw [cell_of_row W3 _ 1 _ _ (0, 0) hnb]; rfl
      have bl3 : Below W0.heap.size W0 W3 := bl2.trans (hba.mono bl2.size)
      have o3 := o.below hba
      have hy1 := HY.out.below bl3
      have e0 := hy1.cell0
      have e1 := hy1.cell1
      have e2 := hy1.frozen 0
      have e3 := hy1.frozen 1
      obtain ⟨hq1, hq2⟩ := hy1.store2 (.slice A5 l1 c5) (.slice A6 l2 c6)
      have j0 := hq1.cell0
      have j1 := hq1.cell1
      have s0 := HZ.out
      have s1 := BL.out.size
      have s3 := bl3.size
      have HD := Lib.hid (pair_done' (w := w) o3 (by omega) hq2 (by omega) (by omega) (HB.out.trans (bl3.mono HB.out.size)) (by omega))
      clear hq1 hq2 hy1 o o3 bl2 bl3 b2 hba hnb hl1 hl2 s0 s1 s3
      go_wp2_with fail
      exact bodyPost_ret (v := .tuple #[.agg #[.slice A5 l1 c5, .slice A6 l2 c6], .bool true]) (by simp [results, Try.results38, go_sem, j0, j1]) rfl ⟨_, _, rfl, HD.out.1, HD.out.2⟩

set_option maxRecDepth 20000 in
set_option maxHeartbeats 6400000 in
theorem impl_cwB (w : World) (A A' : Option Addr) (n n' c c' : Nat) (t f : List Int) (h : Rd w A n t) (h' : Rd w A' n' f) (hn : n ≤ 1048576) (hn' : n' ≤ 1048576) (k : Int) (B : Option Addr) (m d : Nat) (vss : List (List Int)) (hs : RdSS w B m vss) (hm : m ≤ 1048576) (htot : total vss ≤ 1048576) {r : Bool} (hR : cwB t f k vss = r) :
    Calls Try.prog 31 #[.agg #[.slice A n c, .slice A' n' c'], .int .i64 k, .slice B m d] w fun e w' => e = .returned (.bool r) ∧ Below w.heap.size w w' := by
  obtain ⟨W0, hW0, hx, hb, hz⟩ := Box.local_ w 30 (.slice A n c) (.slice A' n' c')
  have c0 := hx.cell0
  have c1 := hx.cell1
  obtain ⟨⟨ok, yt, yf⟩, hc⟩ : ∃ y, cmR t f k vss = y := ⟨_, rfl⟩
  have HOK : Hid (ok = r) := by
    rw [Hid, ← hR]
    cases hw : cwB t f k vss with
    | false => rw [cmR_off hw] at hc; injection hc with h1 _; exact h1.symm
    | true => rw [cmR, if_pos hw] at hc; injection hc with h1 _; exact h1.symm
  obtain rfl := HOK.out
  have HB := Lib.hid hb; have H := Lib.hid h; have H' := Lib.hid h'; have HS := Lib.hid hs; have HC := Lib.hid hc
  clear hx hb h h' hR hs hz hc
  go_enter Try.func31, Try.ntmps31
  go_wp2_with (go_at_call 38; refine (impl_cmR _ A A' n n' c c' t f (H.out.below HB.out) (H'.out.below HB.out) hn hn' k B m d vss (HS.out.below HB.out) hm htot HC.out).mono ?_; rintro e w1 ⟨u, u', rfl, o, b⟩; obtain ⟨l1, hl1⟩ : ∃ l, yt.length = l := ⟨_, rfl⟩; obtain ⟨l2, hl2⟩ : ∃ l, yf.length = l := ⟨_, rfl⟩; obtain ⟨A5, c5, rfl, -, -⟩ := o.turn.form' hl1; obtain ⟨A6, c6, rfl, -, -⟩ := o.flip.form' hl2; have HB1 := Lib.hid (HB.out.trans (b.mono HB.out.size)); clear b o hl1 hl2 c0 c1)
  go_ret
  exact ⟨rfl, HB1.out.alloc HB1.out.size _⟩

end Go.Proofs.Ytlnegaenjcekcaa
