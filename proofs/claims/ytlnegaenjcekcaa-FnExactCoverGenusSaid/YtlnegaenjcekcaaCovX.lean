/-
  The cover of a voltage, the model's; CoverWhole and CoverMap, the model's.
  CoverWhole, CoverMap: the model's.
-/
import Derived.Test.YtlnegaenjcekcaaCovT
import Derived.Test.YtlnegaenjcekcaaVolt
import Derived.Test.YtlnegaenjcekcaaAppF
import Derived.Deep.DeepCutAuto
import Derived.Test.YtlnegaenjcekcaaCovC
namespace Go.Proofs.Ytlnegaenjcekcaa
open Go.RowKit
set_option linter.unusedVariables false

theorem volt_apart {w wr w5 : World} {Av : Option Addr} {k g g' S : Nat} {p : List Int} (hav : Rd w Av k p ∨ (Rd w5 Av k p ∧ ∀ ad, Av = some ad → wr.heap.size ≤ ad.block)) (hb : Below w.heap.size w wr) (bl : Below wr.heap.size wr w5) (h1 : w.heap.size ≤ g ∧ g < wr.heap.size) (h2 : w.heap.size ≤ g' ∧ g' < wr.heap.size) (h3 : w.heap.size ≤ S ∧ S < wr.heap.size) :
    Rd w5 Av k p ∧ ∀ ad, Av = some ad → 0 < k → ad.block ≠ g ∧ ad.block ≠ g' ∧ ad.block ≠ S ∧ ad.block < w5.heap.size := by
  have s1 := hb.size; have s2 := bl.size
  rcases hav with h | ⟨h, hn⟩
  · refine ⟨h.below (hb.trans (bl.mono s1)), fun ad e hk => ?_⟩
    have := h.lt ad e hk
    exact ⟨by omega, by omega, by omega, by omega⟩
  · refine ⟨h, fun ad e hk => ?_⟩
    have l1 := h.lt ad e hk
    have l2 := hn ad e
    exact ⟨by omega, by omega, by omega, by omega⟩

/-- Between the two appends. -/
def MidC (W0 wr : World) (E0 S L g g' cg' : Nat) (Av : Option Addr) (k : Nat) (a ts fs : List Int) (wq : World) : Prop := ∃ g3 c3 : Nat, (g3 = g ∨ g3 = wr.heap.size + 1) ∧ Hid (Box wq S 30 (.slice (some ⟨g3, 0, none⟩) (L + 1) c3) (.slice (some ⟨g', 0, none⟩) L cg')) ∧ Hid (Own wq E0 (.slice (some ⟨g3, 0, none⟩) (L + 1) c3) (ts.take (L + 1))) ∧ Hid (Own wq E0 (.slice (some ⟨g', 0, none⟩) L cg') (fs.take L)) ∧ Hid (Below E0 W0 wq) ∧ wr.heap.size ≤ wq.heap.size ∧ g3 < wq.heap.size ∧ Hid (Rd wq Av k a ∧ ∀ ad, Av = some ad → 0 < k → ad.block ≠ g3 ∧ ad.block ≠ g' ∧ ad.block ≠ S ∧ ad.block < wr.heap.size)

set_option maxRecDepth 20000 in
set_option maxHeartbeats 6400000 in
theorem l9Cover_any (w : World) (A A' : Option Addr) (n c c' : Nat) (t f : List Int) (h : Rd w A n t) (h' : Rd w A' n f) (k : Nat) (B : Option Addr) (m0 d : Nat) (vss : List (List Int)) (hs : RdSS w B m0 vss) (hv : Volt t f k vss) :
    Calls Try.prog 90 #[.agg #[.slice A n c, .slice A' n c'], .int .i64 k, .slice B m0 d] w fun e w' => ∃ u u', e = .returned (.agg #[u, u']) ∧ OwnM w' w.heap.size u u' (covT t k) (covF f vss k) ∧ Below w.heap.size w w' := by
  obtain ⟨i0, hinf, hz0, hz1, hz2⟩ := info_parts info_int
  obtain ⟨W0, hW0, hx, hy, hb, hz⟩ := two_boxes w 30 30 (.slice A n c) (.slice A' n c') (.slice none 0 0) (.slice none 0 0)
  have hn12 : n ≤ 12 := by rw [← h'.1]; exact hv.map.flip.2.1
  have hk1 := hv.one
  have hk6 := hv.six
  obtain ⟨N, hN⟩ : ∃ N, n * k = N := ⟨_, rfl⟩
  have hN12 : N ≤ 12 := by have := hv.few; rw [h.1, Nat.mul_comm] at this; omega
  have HLT : Hid ((covT t k).length = N) := by rw [Hid, covT_len, h.1, hN]
  have HLF : Hid ((covF f vss k).length = N) := by rw [Hid, covF_len, h'.1, hN]
  have HDV : Hid (∀ j, j < n → Vld (dV f vss j) ∧ (dV f vss j).length = k) := fun j hj => hv.dV (by rw [h'.1]; exact hj)
  have HNK := Lib.hid hN
  have HX := Lib.hid hx; have HY := Lib.hid hy; have HB := Lib.hid hb; have H := Lib.hid h; have H' := Lib.hid h'; have HS := Lib.hid hs; have HVO := Lib.hid hv
  clear hx hy hb h h' hs hv hN
  obtain ⟨E0, hE0⟩ : ∃ E0, W0.heap.size = E0 := ⟨_, rfl⟩
  obtain ⟨S, hS⟩ : ∃ S, E0 + 1 + 1 = S := ⟨_, rfl⟩
  obtain ⟨W6, hW6⟩ : ∃ W6, ((W0.alloc (.cells #[] 3)).alloc (.cells #[] 3)).alloc (.cells #[.slice (some ⟨E0, 0, none⟩) 0 0, .slice (some ⟨E0 + 1, 0, none⟩) 0 0] 30) = W6 := ⟨_, rfl⟩
  have hoa : Own (W0.alloc (.cells #[] 3)) E0 (.slice (some ⟨E0, 0, none⟩) 0 0) [] := by rw [← hE0]; exact Own.empty (Nat.le_refl _)
  have hob : Own ((W0.alloc (.cells #[] 3)).alloc (.cells #[] 3)) E0 (.slice (some ⟨E0 + 1, 0, none⟩) 0 0) [] := by
    have h1 := Own.empty (w := W0.alloc (.cells #[] 3)) (lo := E0) (by rw [World.size_alloc]; omega)
    rw [World.size_alloc, hE0] at h1; exact h1
  have HOA6 : Hid (Own W6 E0 (.slice (some ⟨E0, 0, none⟩) 0 0) []) := by
    rw [← hW6]; exact (hoa.below ((Below.refl _ _).alloc (Nat.le_refl _) _)).below ((Below.refl _ _).alloc (Nat.le_refl _) _)
  have HOB6 : Hid (Own W6 E0 (.slice (some ⟨E0 + 1, 0, none⟩) 0 0) []) := by
    rw [← hW6]; exact hob.below ((Below.refl _ _).alloc (Nat.le_refl _) _)
  have HBX6 : Hid (Box W6 S 30 (.slice (some ⟨E0, 0, none⟩) 0 0) (.slice (some ⟨E0 + 1, 0, none⟩) 0 0)) := by
    have := Box.new ((W0.alloc (.cells #[] 3)).alloc (.cells #[] 3)) 30 (.slice (some ⟨E0, 0, none⟩) 0 0) (.slice (some ⟨E0 + 1, 0, none⟩) 0 0)
    rw [World.size_alloc, World.size_alloc, hE0, hS, hW6] at this
    exact this
  have HB6 : Hid (Below E0 W0 W6) := by
    rw [← hW6, ← hE0]; exact (((Below.refl _ _).alloc (Nat.le_refl _) _).alloc (by simp) _).alloc (by simp; omega) _
  have hz6 : W6.heap.size = S + 1 := by rw [← hW6, World.size_alloc, World.size_alloc, World.size_alloc, hE0, hS]
  have hSW : S < W6.heap.size := by omega
  have hES : E0 + 1 < S := by omega
  have hEw : E0 = w.heap.size + 2 := by omega
  have HEW := Lib.hid hEw
  have HE0 := Lib.hid hE0; have HSS := Lib.hid hS
  clear hz6 hoa hob hz hEw
  go_enter Try.func90, Try.ntmps90
  go_wp2_with fail
  clear hE0 hS hW6
  go_loopw [8, 9, 10] (fun iv _ _ wz => ∃ x g cg g' cg' : Nat, x ≤ n ∧ iv = .int .i64 x ∧ g ≠ g' ∧ (g = E0 ∨ S < g) ∧ (g' = E0 + 1 ∨ S < g') ∧ Hid (Box wz S 30 (.slice (some ⟨g, 0, none⟩) (k * x) cg) (.slice (some ⟨g', 0, none⟩) (k * x) cg')) ∧ Hid (Own wz E0 (.slice (some ⟨g, 0, none⟩) (k * x) cg) ((covT t k).take (k * x))) ∧ Hid (Own wz E0 (.slice (some ⟨g', 0, none⟩) (k * x) cg') ((covF f vss k).take (k * x))) ∧ Hid (Below E0 W0 wz) ∧ Hid (S < wz.heap.size)) (fun iv _ _ _ => n - (intOf iv).toNat)
  case atStart => exact ⟨0, E0, 0, E0 + 1, 0, Nat.zero_le _, rfl, by omega, .inl rfl, .inl rfl, HBX6, HOA6, HOB6, HB6, hSW⟩
  case round =>
    obtain ⟨x, g, cg, g', cg', hx, rfl, hgg, hg0, hg0', hv, hoa, hob, hb2, hs2⟩ := hrel
    have hEw1 : w.heap.size + 2 ≤ E0 := Nat.le_of_eq HEW.out.symm
    have hEw2 : E0 ≤ w.heap.size + 2 := Nat.le_of_eq HEW.out
    have HBR : Hid (Below w.heap.size w wr) := HB.out.trans (hb2.out.mono (by omega))
    have hSr : S < wr.heap.size := hs2.out
    have hgl := (hoa.out.lt g rfl).2
    have hgl' := (hob.out.lt g' rfl).2
    have hMx : Box wr w.heap.size 30 (.slice A n c) (.slice A' n c') := HX.out.over hb2.out (by omega)
    have c0 := hMx.cell0
    have c1 := hMx.cell1
    clear HBX6 HOA6 HOB6 HB6 hMx
    by_cases hlt : x < n
    · obtain ⟨P, hP⟩ : ∃ P, k * x = P := ⟨_, rfl⟩
      have hPN : P + k ≤ N := by rw [← hP, ← HNK.out, Nat.mul_comm n k, ← Nat.mul_succ]; exact Nat.mul_le_mul_left k hlt
      have HPS : Hid (P + k = k * (x + 1)) := by rw [Hid, ← hP, Nat.mul_succ]
      obtain ⟨a, ha⟩ : ∃ a, dV f vss x = a := ⟨_, rfl⟩
      have hav := HDV.out x hlt
      rw [ha] at hav
      obtain ⟨tx, htx, htn, hgt⟩ := (HVO.out.map.turn.into H.out.1).nat (j := x) (by rw [H.out.1]; exact hlt)
      obtain ⟨fx, hfx, hfn, hgf⟩ := (HVO.out.map.flip.into H'.out.1).nat (j := x) (by rw [H'.out.1]; exact hlt)
      obtain ⟨P1, hP1⟩ : ∃ P1, k * tx = P1 := ⟨_, rfl⟩
      obtain ⟨P2, hP2⟩ : ∃ P2, k * fx = P2 := ⟨_, rfl⟩
      have hP1N : P1 + k ≤ N := by rw [← hP1, ← HNK.out, Nat.mul_comm n k, ← Nat.mul_succ]; exact Nat.mul_le_mul_left k htn
      have hP2N : P2 + k ≤ N := by rw [← hP2, ← HNK.out, Nat.mul_comm n k, ← Nat.mul_succ]; exact Nat.mul_le_mul_left k hfn
      have gP1 : IntKind.i64.wrap ((k : Int) * (tx : Int)) = (P1 : Int) := by rw [← Int.natCast_mul, hP1]; exact IntWalk.i64_in _ (by omega)
      have gP1' : (k : Int) * (tx : Int) = (P1 : Int) := by rw [← Int.natCast_mul, hP1]
      have gP2 : IntKind.i64.wrap ((k : Int) * (fx : Int)) = (P2 : Int) := by rw [← Int.natCast_mul, hP2]; exact IntWalk.i64_in _ (by omega)
      have gP2' : (k : Int) * (fx : Int) = (P2 : Int) := by rw [← Int.natCast_mul, hP2]
      have gwP1 : IntKind.i64.wrap (P1 : Int) = (P1 : Int) := IntWalk.i64_in _ (by omega)
      have gwP2 : IntKind.i64.wrap (P2 : Int) = (P2 : Int) := IntWalk.i64_in _ (by omega)
      rw [hP] at hv hoa hob
      have HPP := Lib.hid hP; have HP1 := Lib.hid hP1; have HP2 := Lib.hid hP2; have HAV := Lib.hid hav; have HAD := Lib.hid ha; have HGT := Lib.hid hgt; have HGF := Lib.hid hgf; have HTX := Lib.hid htx; have HFX := Lib.hid hfx
      have HGW : Hid ((w.heap.size ≤ g ∧ g < wr.heap.size) ∧ (w.heap.size ≤ g' ∧ g' < wr.heap.size) ∧ (w.heap.size ≤ S ∧ S < wr.heap.size)) := ⟨⟨by omega, hgl⟩, ⟨by omega, hgl'⟩, by omega, hSr⟩
      clear hP ha hav htx hfx hgt hgf hP1 hP2
      go_wp2_with (go_at_call 84; refine (l9Volt_at w _ HBR.out A A' n c c' t f (H.out.below HBR.out) (H'.out.below HBR.out) k B m0 d vss HS.out HVO.out x hlt HAD.out).mono ?_; rintro e w5 ⟨Av, cv, rfl, hvo, bl⟩; have HVA := Lib.hid (volt_apart hvo HBR.out bl HGW.out.1 HGW.out.2.1 HGW.out.2.2); have BL := Lib.hid bl; clear hvo bl c0 c1)
      have hv5 := Lib.hid (hv.out.below BL.out)
      have hoa5 := Lib.hid (hoa.out.below BL.out)
      have hob5 := Lib.hid (hob.out.below BL.out)
      have hb5 := Lib.hid (hb2.out.trans (BL.out.mono (by omega)))
      have hs5 : Hid (S < w5.heap.size) := by have := BL.out.size; rw [Hid]; omega
      clear hv hoa hob hb2 hs2 HBR hSr hgl hgl' HGW
      go_loopw [10] (fun sv wz => ∃ s g cg g' cg' : Nat, s ≤ k ∧ sv = .int .i64 s ∧ g ≠ g' ∧ (g = E0 ∨ S < g) ∧ (g' = E0 + 1 ∨ S < g') ∧ Hid (Box wz S 30 (.slice (some ⟨g, 0, none⟩) (P + s) cg) (.slice (some ⟨g', 0, none⟩) (P + s) cg')) ∧ Hid (Own wz E0 (.slice (some ⟨g, 0, none⟩) (P + s) cg) ((covT t k).take (P + s))) ∧ Hid (Own wz E0 (.slice (some ⟨g', 0, none⟩) (P + s) cg') ((covF f vss k).take (P + s))) ∧ Hid (Below E0 W0 wz) ∧ Hid (S < wz.heap.size) ∧ Hid (Rd wz Av k a ∧ ∀ ad, Av = some ad → 0 < k → ad.block ≠ g ∧ ad.block ≠ g' ∧ ad.block ≠ S ∧ ad.block < wz.heap.size)) (fun sv _ => k - (intOf sv).toNat)
      case atStart => exact ⟨0, g, cg, g', cg', Nat.zero_le _, rfl, hgg, hg0, hg0', hv5, hoa5, hob5, hb5, hs5, HVA⟩
      case round =>
        clear hv5 hoa5 hob5 hb5 hs5 HVA hgg hg0 hg0'
        obtain ⟨s, g, cg, g', cg', hsk, rfl, hgg, hg0, hg0', hv, hoa, hob, hb2, hs2, hva⟩ := hrel
        have HBR : Hid (Below w.heap.size w wr) := HB.out.trans (hb2.out.mono (by omega))
        have hSr : S < wr.heap.size := hs2.out
        have hgl := (hoa.out.lt g rfl).2
        have hgl' := (hob.out.lt g' rfl).2
        by_cases hlt2 : s < k
        · obtain ⟨y, hy, hyn, hgy⟩ := (HAV.out.1.into HAV.out.2).nat (j := s) (by rw [HAV.out.2]; exact hlt2)
          obtain ⟨L, hL⟩ : ∃ L, P + s = L := ⟨_, rfl⟩
          obtain ⟨u1, hu1⟩ : ∃ u1, P1 + s = u1 := ⟨_, rfl⟩
          obtain ⟨u2, hu2⟩ : ∃ u2, P2 + y = u2 := ⟨_, rfl⟩
          have gu1 : IntKind.i64.wrap ((P1 : Int) + (s : Int)) = (u1 : Int) := by rw [IntWalk.i64_in _ (by omega)]; omega
          have gu1' : (P1 : Int) + (s : Int) = (u1 : Int) := by omega
          have gu2 : IntKind.i64.wrap ((P2 : Int) + (y : Int)) = (u2 : Int) := by rw [IntWalk.i64_in _ (by omega)]; omega
          have gu2' : (P2 : Int) + (y : Int) = (u2 : Int) := by omega
          have gwu1 : IntKind.i64.wrap (u1 : Int) = (u1 : Int) := IntWalk.i64_in _ (by omega)
          have gwu2 : IntKind.i64.wrap (u2 : Int) = (u2 : Int) := IntWalk.i64_in _ (by omega)
          have hLN : L < N := by omega
          have HLS : Hid (P + (s + 1) = L + 1) := by rw [Hid]; omega
          have HOT : Hid ((covT t k).take (L + 1) = (covT t k).take L ++ [(u1 : Int)]) := by
            rw [Hid]
            refine take_oneC (by rw [HLT.out]; exact hLN) ?_
            rw [← hL, ← HPP.out, gi_covT (by rw [H.out.1]; exact hlt) hlt2, HGT.out, HP1.out, hu1]
          have HOF : Hid ((covF f vss k).take (L + 1) = (covF f vss k).take L ++ [(u2 : Int)]) := by
            rw [Hid]
            refine take_oneC (by rw [HLF.out]; exact hLN) ?_
            rw [← hL, ← HPP.out, gi_covF (by rw [H'.out.1]; exact hlt) hlt2, HGF.out, HAD.out, hgy, HP2.out, hu2]
          have HTL : Hid (((covT t k).take L).length = L) := take_len HLT.out (by omega)
          have HFL : Hid (((covF f vss k).take L).length = L) := take_len HLF.out (by omega)
          rw [hL] at hv hoa hob
          have HOA := hoa.out.asRow HTL.out
          have HNW := Lib.hid (cell_one_new wr (.int .i64 (u1 : Int)) 3)
          have HNE1 : Hid (g ≠ S) := by rw [Hid]; omega
          have HGE1 : Hid (E0 ≤ g) := by rw [Hid]; omega
          have HNE2 : Hid (g' ≠ S) := by rw [Hid]; omega
          have HGE2 : Hid (E0 ≤ g') := by rw [Hid]; omega
          have cv0 := hv.out.cell0
          have cva : (wr.alloc (.cells #[.int .i64 (u1 : Int)] 3)).cell? ⟨S, 0, none⟩ = some (.slice (some ⟨g, 0, none⟩) L cg) := (hv.out.below ((Below.refl _ _).alloc (Nat.le_refl _) _)).cell0
          have hMx : Box wr w.heap.size 30 (.slice A n c) (.slice A' n c') := HX.out.over hb2.out (by omega)
          have c0 := hMx.cell0
          obtain ⟨adT, hAT, hcT⟩ := (H.out.below HBR.out).at_ hlt
          rw [HTX.out] at hcT
          have HYV := Lib.hid hy
          subst hAT
          have hx0 : (0 : Int) ≤ (x : Int) := by omega
          have hxn : (x : Int) < (n : Int) := by omega
          clear hL hu1 hu2 hy hgy hMx
          go_wp2_with fail
          go_cut [10] (fun sv wq => sv = .int .i64 s ∧ MidC W0 wr E0 S L g g' cg' Av k a (covT t k) (covF f vss k) wq)
          case first =>
            go_region_law (refine step_append_lies (o := ⟨some 42, _, _, _, _, _⟩) (hgd := rfl) (s := .tmp 31) (x := .tmp 41) (t := 22) (ho := rfl) (base := E0) (e := 3) (i := i0) (z := .int .i64 0) (size := 1) (bytes := 8) (ht := Try.underlying22) (hi := hinf) (hz := hz0) (hsize := hz1) (hby := hz2) (hzs := rfl) (hsz := by decide) (v := .slice (some ⟨g, 0, none⟩) L cg) (n := L) (xs := ints ((covT t k).take L)) (hs := by simp [Act.eval]) (hown := World.ownsRow.alloc HOA.out _) (ad := ⟨wr.heap.size, 0, none⟩) (m := 1) (c := 1) (news := [.int .i64 (u1 : Int)]) (hx := by simp [Act.eval]) (hl := rfl) (hnews := HNW.out) (h1 := by intro u hu; simp at hu; subst hu; rfl) (hm := by omega) (h63 := by unfold maxLen; omega) (hbytes := by omega) (hbase := by simp; omega) (H := wr.heap.size + 1) (hH := by simp) (h := ?_); intro g3 c3 w7 hown7 hgrow7 hat7 hlt7; have HN7 := Lib.hid hown7; have HG7 := Lib.hid hgrow7; have HAT7 := Lib.hid hat7; clear hown7 hgrow7 hat7; have hta := app_fld (lo := E0) 0 (.slice (some ⟨g3, 0, none⟩) (L + 1) c3) hv.out (by first | exact (Below.refl _ _).alloc (Nat.le_refl _) _ | exact below_drewN ((Below.refl _ _).alloc (Nat.le_refl _) _) 1 | exact below_drewN ((Below.refl _ _).alloc (Nat.le_refl _) _) _) HG7.out HNE1.out HGE1.out (by omega) (by omega); have HV7 := Lib.hid hta.1; have KM := Lib.hid hta.2; clear hta; have f7 := HV7.out.frozen 0; have c7 := HV7.out.cell0; have KB := Lib.hid (set_row2 (j := 0) (u := .slice (some ⟨g3, 0, none⟩) (L + 1) c3) HV7.out))
            all_goals
              obtain ⟨k1, k2, k3⟩ := KM.out
              have kb := KB.out
              have ho7 : Own w7 E0 (.slice (some ⟨g3, 0, none⟩) (L + 1) c3) ((covT t k).take (L + 1)) := by
                rw [HOT.out]; unfold Own; rw [List.length_append, HTL.out]
                have := HN7.out
                unfold ints at this ⊢
                rw [List.map_append]
                exact this
              have hg3 : g3 = g ∨ g3 = wr.heap.size + 1 := by
                rcases HAT7.out with e | e
                · exact .inl (by have e' : (some g : Option Nat) = some g3 := e; injection e' with e'; exact e'.symm)
                · exact .inr e
              have ho7s := ho7.grown (grown_set w7 S 0 (.slice (some ⟨g3, 0, none⟩) (L + 1) c3)) (.inr (fun e => by have e' : (some g3 : Option Nat) = some S := e; injection e' with e'; omega))
              have hl7 := (ho7s.lt g3 rfl).2
              obtain ⟨wq, hwq⟩ : ∃ wq, w7.setCell ⟨S, 0, none⟩ (.slice (some ⟨g3, 0, none⟩) (L + 1) c3) = wq := ⟨_, rfl⟩
              rw [hwq] at k1 k2 k3 kb ho7s hl7
              have HVQ : Hid (Box wq S 30 (.slice (some ⟨g3, 0, none⟩) (L + 1) c3) (.slice (some ⟨g', 0, none⟩) L cg')) := by rw [Hid]; unfold Box; rw [kb]; rfl
              have HOAQ := Lib.hid ho7s
              have hobq := hob.out.of_block (w' := wq) (fun q hq => by have e' : (some g' : Option Nat) = some q := hq; injection e' with e'; exact k1 q (by omega) (by omega) (by omega))
              have HOBQ := Lib.hid hobq
              have HOB := hobq.asRow HFL.out
              have HB2Q := Lib.hid (hb2.out.trans k2)
              have HBRQ : Hid (Below w.heap.size w wq) := HBR.out.trans (k2.mono (by omega))
              have HVAQ : Hid (Rd wq Av k a ∧ ∀ ad, Av = some ad → 0 < k → ad.block ≠ g3 ∧ ad.block ≠ g' ∧ ad.block ≠ S ∧ ad.block < wr.heap.size) := by
                refine ⟨hva.out.1.of_block fun ad e hk => ?_, fun ad e hk => ?_⟩
                · obtain ⟨y1, y2, y3, y4⟩ := hva.out.2 ad e hk
                  exact k1 _ y4 y1 y3
                · obtain ⟨y1, y2, y3, y4⟩ := hva.out.2 ad e hk
                  exact ⟨by omega, y2, y3, y4⟩
              go_simp
              try rw [hwq]
              clear hwq
              go_wp2_with fail
              go_meet
              case rel => exact ⟨rfl, g3, c3, hg3, HVQ, HOAQ, HOBQ, HB2Q, k3, hl7, HVAQ⟩
          case rest =>
            obtain ⟨rfl, g3, c3, hg3, HVQ, HOAQ, HOBQ, HB2Q, k3, hl7, HVAQ⟩ := hcut
            obtain ⟨wq, hwq⟩ : ∃ wq : World, wq = wc := ⟨_, rfl⟩
            subst hwq
            have HOB := HOBQ.out.asRow HFL.out
            have HBRQ : Hid (Below w.heap.size w wq) := HB.out.trans (HB2Q.out.mono (by omega))
            have HG3 := Lib.hid hg3
            have hgl2 : g' < wq.heap.size := by omega
            have hMq : Box wq w.heap.size 30 (.slice (some adT) n c) (.slice A' n c') := HX.out.over HB2Q.out (by omega)
            have d1 := hMq.cell1
            obtain ⟨adF, hAF, hcF⟩ := (H'.out.below HBRQ.out).at_ hlt
            rw [HFX.out] at hcF
            obtain ⟨adV, hAV, hcV⟩ := HVAQ.out.1.at_ hlt2
            rw [HYV.out] at hcV
            subst hAF
            subst hAV
            have HNW2 := Lib.hid (cell_one_new wq (.int .i64 (u2 : Int)) 3)
            have dv := HVQ.out.cell1
            have dva : (wq.alloc (.cells #[.int .i64 (u2 : Int)] 3)).cell? ⟨S, 1, none⟩ = some (.slice (some ⟨g', 0, none⟩) L cg') := (HVQ.out.below ((Below.refl _ _).alloc (Nat.le_refl _) _)).cell1
            have hs0 : (0 : Int) ≤ (s : Int) := by omega
            have hskI : (s : Int) < (k : Int) := by omega
            clear hg3 cv0 cva c0 hcT hMq
            go_wp2_with fail
            go_region_law (refine step_append_lies (o := ⟨some 59, _, _, _, _, _⟩) (hgd := rfl) (s := .tmp 45) (x := .tmp 58) (t := 22) (ho := rfl) (base := E0) (e := 3) (i := i0) (z := .int .i64 0) (size := 1) (bytes := 8) (ht := Try.underlying22) (hi := hinf) (hz := hz0) (hsize := hz1) (hby := hz2) (hzs := rfl) (hsz := by decide) (v := .slice (some ⟨g', 0, none⟩) L cg') (n := L) (xs := ints ((covF f vss k).take L)) (hs := by simp [Act.eval]) (hown := World.ownsRow.alloc HOB.out _) (ad := ⟨wq.heap.size, 0, none⟩) (m := 1) (c := 1) (news := [.int .i64 (u2 : Int)]) (hx := by simp [Act.eval]) (hl := rfl) (hnews := HNW2.out) (h1 := by intro u hu; simp at hu; subst hu; rfl) (hm := by omega) (h63 := by unfold maxLen; omega) (hbytes := by omega) (hbase := by simp; omega) (H := wq.heap.size + 1) (hH := by simp) (h := ?_); intro g4 c4 w8 hown8 hgrow8 hat8 hlt8; have HN8 := Lib.hid hown8; have HG8 := Lib.hid hgrow8; have HAT8 := Lib.hid hat8; clear hown8 hgrow8 hat8; have hta := app_fld (lo := E0) 1 (.slice (some ⟨g4, 0, none⟩) (L + 1) c4) HVQ.out (by first | exact (Below.refl _ _).alloc (Nat.le_refl _) _ | exact below_drewN ((Below.refl _ _).alloc (Nat.le_refl _) _) 1 | exact below_drewN ((Below.refl _ _).alloc (Nat.le_refl _) _) _) HG8.out HNE2.out HGE2.out (by omega) (by omega); have HV8 := Lib.hid hta.1; have KM2 := Lib.hid hta.2; clear hta; have f8 := HV8.out.frozen 1; have c8 := HV8.out.cell1; have KB2 := Lib.hid (set_row2 (j := 1) (u := .slice (some ⟨g4, 0, none⟩) (L + 1) c4) HV8.out))
            all_goals
              obtain ⟨l1, l2, l3⟩ := KM2.out
              have kb2 := KB2.out
              have ho8 : Own w8 E0 (.slice (some ⟨g4, 0, none⟩) (L + 1) c4) ((covF f vss k).take (L + 1)) := by
                rw [HOF.out]; unfold Own; rw [List.length_append, HFL.out]
                have := HN8.out
                unfold ints at this ⊢
                rw [List.map_append]
                exact this
              have hg4 : g4 = g' ∨ g4 = wq.heap.size + 1 := by
                rcases HAT8.out with e | e
                · exact .inl (by have e' : (some g' : Option Nat) = some g4 := e; injection e' with e'; exact e'.symm)
                · exact .inr e
              have ho8s := ho8.grown (grown_set w8 S 1 (.slice (some ⟨g4, 0, none⟩) (L + 1) c4)) (.inr (fun e => by have e' : (some g4 : Option Nat) = some S := e; injection e' with e'; omega))
              obtain ⟨wX, hwX⟩ : ∃ wX, w8.setCell ⟨S, 1, none⟩ (.slice (some ⟨g4, 0, none⟩) (L + 1) c4) = wX := ⟨_, rfl⟩
              rw [hwX] at l1 l2 l3 kb2 ho8s
              have hg3 := HG3.out
              have HVX : Hid (Box wX S 30 (.slice (some ⟨g3, 0, none⟩) (L + 1) c3) (.slice (some ⟨g4, 0, none⟩) (L + 1) c4)) := by rw [Hid]; unfold Box; rw [kb2]; rfl
              have HOAX := Lib.hid (HOAQ.out.of_block (w' := wX) (fun q hq => by have e' : (some g3 : Option Nat) = some q := hq; injection e' with e'; exact l1 q (by omega) (by omega) (by omega)))
              have HOBX := Lib.hid ho8s
              have HB2X := Lib.hid (HB2Q.out.trans l2)
              have HVAX : Hid (Rd wX (some adV) k a ∧ ∀ ad, some adV = some ad → 0 < k → ad.block ≠ g3 ∧ ad.block ≠ g4 ∧ ad.block ≠ S ∧ ad.block < wX.heap.size) := by
                refine ⟨HVAQ.out.1.of_block fun ad e hk => ?_, fun ad e hk => ?_⟩
                · obtain ⟨y1, y2, y3, y4⟩ := HVAQ.out.2 ad e hk
                  exact l1 _ (by omega) y2 y3
                · obtain ⟨y1, y2, y3, y4⟩ := HVAQ.out.2 ad e hk
                  exact ⟨y1, by omega, y3, by omega⟩
              have HR1 : Hid (g3 ≠ g4 ∧ (g3 = E0 ∨ S < g3) ∧ (g4 = E0 + 1 ∨ S < g4) ∧ S < wX.heap.size) := by
                refine ⟨by omega, by omega, by omega, by omega⟩
              go_simp
              try rw [hwX]
              clear hwX l1 l2 kb2 ho8 ho8s hg4 hg3 dv dva c8 f8 hcF hcV d1 KM2 KB2 HV8 HN8 HG8 HAT8
              go_wp2
              go_roundw
              case rel => exact ⟨s + 1, g3, c3, g4, c4, by omega, by go_num, HR1.out.1, HR1.out.2.1, HR1.out.2.2.1, by rw [HLS.out]; exact HVX, by rw [HLS.out]; exact HOAX, by rw [HLS.out]; exact HOBX, HB2X, HR1.out.2.2.2, HVAX⟩
              case measure => simp [intOf]; omega
        · have hse : s = k := by omega
          rw [hse, HPS.out] at hv hoa hob
          clear hse
          go_wp2_with fail
          go_roundw
          case rel => exact ⟨x + 1, g, cg, g', cg', by omega, by go_num, hgg, hg0, hg0', hv, hoa, hob, hb2, hs2⟩
          case measure => simp [intOf]; omega
    · have hxn : x = n := by omega
      rw [hxn, Nat.mul_comm, HNK.out] at hv hoa hob
      rw [List.take_of_length_le (by rw [HLT.out]; exact Nat.le_refl _)] at hoa
      rw [List.take_of_length_le (by rw [HLF.out]; exact Nat.le_refl _)] at hob
      have cv0 := hv.out.cell0
      have cv1 := hv.out.cell1
      have hy : Box wr (w.heap.size + 1) 30 (.slice none 0 0) (.slice none 0 0) := HY.out.over hb2.out (by omega)
      have e0 := hy.cell0
      have e1 := hy.cell1
      have e2 := hy.frozen 0
      have e3 := hy.frozen 1
      obtain ⟨hq1, hq2⟩ := hy.store2 (.slice (some ⟨g, 0, none⟩) N cg) (.slice (some ⟨g', 0, none⟩) N cg')
      have k0 := hq1.cell0
      have k1 := hq1.cell1
      have HD := Lib.hid (pair_done (u := .slice (some ⟨g, 0, none⟩) N cg) (u' := .slice (some ⟨g', 0, none⟩) N cg') (lo := E0) hoa.out hob.out (fun q hq hq' => by
        have a1 : (some g : Option Nat) = some q := hq
        have a2 : (some g' : Option Nat) = some q := hq'
        injection a1 with a1
        injection a2 with a2
        omega) HBR.out hq2 (by omega) (by omega))
      clear hq1 hq2 hxn
      go_wp2_with fail
      exact bodyPost_ret (v := .agg #[.slice (some ⟨g, 0, none⟩) N cg, .slice (some ⟨g', 0, none⟩) N cg']) (by simp [results, Try.results90, go_sem, k0, k1]) rfl ⟨_, _, rfl, HD.out.1, HD.out.2⟩

end Go.Proofs.Ytlnegaenjcekcaa

namespace Go.Proofs.Ytlnegaenjcekcaa
open Go.RowKit
set_option linter.unusedVariables false

set_option maxRecDepth 20000 in
set_option maxHeartbeats 3200000 in
theorem spec_cwB (w : World) (A A' : Option Addr) (n n' c c' : Nat) (t f : List Int) (h : Rd w A n t) (h' : Rd w A' n' f) (hn : n ≤ 1048576) (hn' : n' ≤ 1048576) (k : Int) (B : Option Addr) (m d : Nat) (vss : List (List Int)) (hs : RdSS w B m vss) (hm : m ≤ 1048576) (htot : total vss ≤ 1048576) {r : Bool} (hR : cwB t f k vss = r) :
    Calls Try.prog 59 #[.agg #[.slice A n c, .slice A' n' c'], .int .i64 k, .slice B m d] w fun e w' => e = .returned (.bool r) ∧ Below w.heap.size w w' := by
  obtain ⟨W0, hW0, hx, hb, -⟩ := Box.local_ w 30 (.slice A n c) (.slice A' n' c')
  have c0 := hx.cell0
  have c1 := hx.cell1
  have HX := Lib.hid hx; have HB := Lib.hid hb; have H := Lib.hid h; have H' := Lib.hid h'; have HR := Lib.hid hR; have HS := Lib.hid hs
  clear hx hb h h' hR hs
  cases hv : vvB t f k vss with
  | false =>
    have HF : Hid (false = r) := by rw [Hid, ← HR.out, cwB_off hv]
    have HV := Lib.hid hv; clear hv
    go_enter Try.func59, Try.ntmps59
    go_wp2_with (go_at_call 36; refine (spec_vvB _ A A' n n' c c' t f (H.out.below HB.out) (H'.out.below HB.out) hn hn' k B m d vss (HS.out.below HB.out) hm htot HV.out).mono ?_; rintro e w1 ⟨rfl, b⟩; have HB1 := Lib.hid (HB.out.trans (b.mono HB.out.size)); clear b c0 c1)
    go_ret
    exact ⟨ret_bool HF.out, HB1.out⟩
  | true =>
    obtain ⟨kn, rfl, hvt⟩ := Volt_of hv
    obtain ⟨q, hq⟩ : ∃ q, mapV (covT t kn) (covF f vss kn) = q := ⟨_, rfl⟩
    have HF : Hid (q = r) := by rw [Hid, ← HR.out, cwB, hv, Bool.true_and, Int.toNat_natCast, hq]
    have hn2 : n' = n := by rw [← H.out.1, ← H'.out.1]; exact hvt.map.len.symm
    subst hn2
    obtain ⟨l1, hl1⟩ : ∃ l, (covT t kn).length = l := ⟨_, rfl⟩
    obtain ⟨l2, hl2⟩ : ∃ l, (covF f vss kn).length = l := ⟨_, rfl⟩
    have hl1' : l1 ≤ 1048576 := by have := hvt.few; rw [← hl1, covT_len, Nat.mul_comm]; omega
    have hl2' : l2 ≤ 1048576 := by have := hvt.few; have := hvt.map.len; rw [← hl2, covF_len, ← this, Nat.mul_comm]; omega
    have HV := Lib.hid hv; have HVT := Lib.hid hvt; have HQ := Lib.hid hq; have HL1 := Lib.hid hl1; have HL2 := Lib.hid hl2
    clear hv hvt hq hl1 hl2
    go_enter Try.func59, Try.ntmps59
    go_wp2_with (first
      | (go_at_call 36; refine (spec_vvB _ A A' n' n' c c' t f (H.out.below HB.out) (H'.out.below HB.out) hn hn' (kn : Int) B m d vss (HS.out.below HB.out) hm htot HV.out).mono ?_; rintro e w1 ⟨rfl, b⟩; have HB1 := Lib.hid (HB.out.trans (b.mono HB.out.size)); have d0 := (HX.out.below b).cell0; have d1 := (HX.out.below b).cell1; clear b c0 c1)
      | (go_at_call 90; refine (l9Cover_any w1 A A' n' c c' t f (H.out.below HB1.out) (H'.out.below HB1.out) kn B m d vss (HS.out.below HB1.out) HVT.out).mono ?_; rintro e w2 ⟨u, u', rfl, o, b⟩; obtain ⟨A5, c5, rfl, -, -⟩ := o.turn.form' HL1.out; obtain ⟨A6, c6, rfl, -, -⟩ := o.flip.form' HL2.out; have HB2 := Lib.hid (HB1.out.trans (b.mono HB1.out.size)); have HO := Lib.hid o; clear b o d0 d1)
      | (go_at_call 68; refine (spec_mapV w2 A5 A6 l1 l2 c5 c6 _ _ (HO.out.turn.rd HL1.out) (HO.out.flip.rd HL2.out) hl1' hl2' HQ.out).mono ?_; rintro e w3 ⟨rfl, b⟩; have HB3 := Lib.hid (HB2.out.trans (b.mono HB2.out.size)); clear b))
    go_ret
    exact ⟨ret_bool HF.out, HB3.out⟩

theorem cmR_len {t f : List Int} {k : Int} {vss : List (List Int)} {ok : Bool} {yt yf : List Int} (h : cmR t f k vss = (ok, yt, yf)) : yt.length ≤ 12 ∧ yf.length ≤ 12 := by
  rw [cmR] at h
  split at h
  · rename_i hq
    obtain ⟨hv, -⟩ := (Bool.and_eq_true _ _).mp (show (vvB t f k vss && mapV (covT t k.toNat) (covF f vss k.toNat)) = true from hq)
    obtain ⟨kn, rfl, hvt⟩ := Volt_of hv
    have h1 := hvt.few
    have h2 := hvt.map.len
    rw [Int.toNat_natCast] at h
    injection h with _ h
    injection h with ht hf
    rw [← ht, ← hf, covT_len, covF_len, ← h2, Nat.mul_comm]
    exact ⟨h1, h1⟩
  · injection h with _ h
    injection h with ht hf
    rw [← ht, ← hf]
    exact ⟨by simp, by simp⟩

end Go.Proofs.Ytlnegaenjcekcaa
