/-
  Plane maps by the degree of the root face, the model's table.
-/
import Derived.Test.YtiochmdedpookaaGrid
import Derived.Test.YtiochmdedpookaaFaceI
import Derived.Test.YtiochmdedpookaaCnt
namespace Go.Proofs.Ytiochmdedpookaa
open Go.RowKit Go.Maps
set_option linter.unusedVariables false

def tf (e p : Nat) (i j : Nat) : Int := if i < e ∨ (i = e ∧ j < p) then fF i j else 0
theorem face_ok2 : ∀ E : Nat, E < 10 → ∀ e : Nat, e < E + 1 → 0 < e → ∀ p : Nat, p < 2 * E + 1 → 0 < p → fLast e p (fOut e p e) (2 * E + 1 - (p - 1)) = fF e p := by decide +kernel

set_option maxRecDepth 20000 in
set_option maxHeartbeats 3200000 in
theorem l3Faces_any (w : World) (E : Nat) (hE : E ≤ 9) :
    Calls Try.prog 32 #[.int .i64 E] w fun x w' => ∃ X c0 b c, x = .returned (.slice (some ⟨X, 0, none⟩) (E + 1) c0) ∧ Grid w' w.heap.size X b c (E + 1) (2 * E + 1) (tf (E + 1) 1) ∧ Below w.heap.size w w' := by
  obtain ⟨i0, hinf, hz0, hz1, hz2⟩ := info_parts info_int
  obtain ⟨i1, hinf1, hy0, hy1, hy2⟩ := info_parts info_slice
  go_enter Try.func32, Try.ntmps32
  go_wp2_with fail
  go_loopw [3, 4] (fun v' kv' wr => ∃ (v : Value) (k : Nat), v = v' ∧ k ≤ E + 1 ∧ kv' = .int .i64 k ∧ Hid (OwnSS wr w.heap.size wr.heap.size v (List.replicate k (List.replicate (2 * E + 1) 0))) ∧ Hid (Below w.heap.size w wr)) (fun _ kv' _ => E + 1 - (intOf kv').toNat)
  case atStart => exact ⟨_, 0, rfl, by omega, rfl, OwnSS.empty (Nat.le_refl _), (Below.refl _ _).alloc (Nat.le_refl _) _⟩
  case round =>
    obtain ⟨v, k, rfl, hk, rfl, hos, hb⟩ := hrel
    have hbs := hb.out.size
    by_cases hlt : k < E + 1
    · have hlen : (List.replicate k (List.replicate (2 * E + 1) (0 : Int))).length = k := by simp
      go_wp2_with (first
        | (at_make; refine wpList_make_full _ rfl _ _ 39 rfl w.heap.size 3 i0 (.int .i64 0) 1 Try.underlying39 hinf hz0 hz1 .i64 .i64 _ _ (2 * E + 1) rfl rfl rfl rfl (by rw [hz2]; omega) (by unfold maxLen; omega) hbs ?_; intro w1 hown1 hgrow1; have HU := Lib.hid (Own.made hown1); have HG1 := Lib.hid hgrow1; clear hown1 hgrow1; have HS1 := Lib.hid (HG1.out.size); obtain ⟨vs, hvl, hvo, hvr, hvd⟩ := hos.out.below (below_of_grown HG1.out (Nat.le_refl _) (fun k hk => by cases hk)); have HVL := Lib.hid hvl; have HVO := Lib.hid hvo; have HVR := Lib.hid hvr; have HVD := Lib.hid hvd; clear hvl hvo hvr hvd; have hs1 := HS1.out)
        | (at_builtin; refine wpList_append_own _ rfl (.tmp 17) (.tmp 22) 40 rfl w.heap.size 39 i1 (.slice none 0 0) 1 24 Try.underlying40 hinf1 hy0 hy1 hy2 rfl (by decide) _ _ _ rfl (HVO.out.alloc _) ⟨w1.heap.size, 0, none⟩ 1 1 [.slice (some ⟨wr.heap.size, 0, none⟩) (2 * E + 1) (2 * E + 1)] rfl rfl (cell_one_new _ _ _) (by intro u hu; simp at hu; subst hu; rfl) (by rw [hlen]; unfold maxLen; omega) (by rw [hlen]; omega) (by simp; omega) ?_; intro v2 w2 hown2 hgrow2 _; have HO2 := Lib.hid hown2; have HG2 := Lib.hid hgrow2; clear hown2 hgrow2))
      go_roundw
      case rel =>
        have hba : Below w1.heap.size w1 (w1.alloc (.cells #[.slice (some ⟨wr.heap.size, 0, none⟩) (2 * E + 1) (2 * E + 1)] 39)) := (Below.refl _ _).alloc (Nat.le_refl _) _
        have hsz2 := HG2.out.size
        rw [World.size_alloc] at hsz2
        have hb2 := ((hb.out.grown HG1.out hbs (fun k hk => by cases hk)).alloc (by omega) (.cells #[.slice (some ⟨wr.heap.size, 0, none⟩) (2 * E + 1) (2 * E + 1)] 39)).grown HG2.out (by simp; omega) (fun k hk => (HVO.out.lt k hk).1)
        have hwlt : wr.heap.size < w1.heap.size := (HU.out.lt _ rfl).2
        refine ⟨_, k + 1, rfl, by omega, by go_num, ?_, hb2⟩
        rw [List.replicate_succ' (n := k)]
        exact OwnSS.snoc (hi := wr.heap.size) HVL.out (fun j hj => ⟨(HVR.out j hj).1.below hba, (HVR.out j hj).2⟩) HVD.out (HVO.out.alloc _) (HU.out.below hba) (fun k hk => by simp [Value.ownBlock] at hk; omega) (by omega) (fun k hk => by simp [Value.ownBlock] at hk; omega) HO2.out HG2.out
      case measure => simp [intOf]; omega
    · obtain rfl : k = E + 1 := by omega
      obtain ⟨X, c0, b, c, rfl, hgr⟩ := hos.out.grid (m := E + 1) (n := 2 * E + 1) (by simp) (by omega) (fun i hi => by rw [getD_rep _ _ hi]; simp) (by omega)
      have hgr0 : Grid wr w.heap.size X b c (E + 1) (2 * E + 1) (fun _ _ => 0) := hgr.congr (fun i hi j hj => by rw [getD_rep _ _ hi, gi_rep _ _ hj])
      have HGR := Lib.hid hgr0; clear hos hgr hgr0
      have o0 := HGR.out.out 0 (by omega)
      have o1 := HGR.out.inn 0 (by omega) 0 (by omega)
      have o2 := HGR.out.fr 0 (by omega) 0 (by omega)
      have hgr1 : Grid (wr.setCell ⟨b 0, 0, none⟩ (.int .i64 1)) w.heap.size X b c (E + 1) (2 * E + 1) (tf 1 1) := HGR.out.set (by omega) (by omega) 1 (fun i hi j hj => by
        unfold tf
        by_cases h : i = 0 ∧ j = 0
        · rw [if_pos h, if_pos (by omega), h.1, h.2]; rfl
        · rw [if_neg h]
          by_cases h2 : i < 1
          · rw [if_pos (by omega)]
            obtain rfl : i = 0 := by omega
            exact fF_edge (by omega) (by omega) (by omega) (by omega)
          · by_cases h3 : i = 1 ∧ j < 1
            · rw [if_pos (by omega)]
              exact fF_edge (by omega) (by omega) (by omega) (by omega)
            · rw [if_neg (by omega)])
      have HG1 := Lib.hid hgr1; clear hgr1
      have HB1 := Lib.hid (hb.out.setCell (p := ⟨b 0, 0, none⟩) (HGR.out.lb 0 (by omega)) (.int .i64 1))
      go_wp2_with fail
      obtain ⟨W1, hW1⟩ : ∃ W, wr.setCell ⟨b 0, 0, none⟩ (.int .i64 1) = W := ⟨_, rfl⟩
      rw [hW1] at HG1 HB1 ⊢
      clear o0 o1 o2 HGR hb hbs hW1 hlt hinf hz0 hz1 hz2 hinf1 hy0 hy1 hy2
      go_loopw [5] (fun ev wq => ∃ e : Nat, 1 ≤ e ∧ e ≤ E + 1 ∧ ev = .int .i64 e ∧ Hid (Grid wq w.heap.size X b c (E + 1) (2 * E + 1) (tf e 1)) ∧ Hid (Below w.heap.size w wq)) (fun ev _ => E + 2 - (intOf ev).toNat)
      case atStart => exact ⟨1, by omega, by omega, rfl, HG1, HB1⟩
      case round =>
        clear HG1 HB1
        obtain ⟨e, he1, he, rfl, hg0, hb0⟩ := hrel
        by_cases hlte : e ≤ E
        · have hd1 : decide ((e : Int) ≤ (E : Int)) = true := by simp; omega
          obtain ⟨f, hf⟩ : ∃ f : Nat, (e : Int) - 1 = f := ⟨e - 1, by omega⟩
          go_wp2_with fail
          go_loopw [6] (fun pv wq' => ∃ p : Nat, 1 ≤ p ∧ p ≤ 2 * E + 1 ∧ pv = .int .i64 p ∧ Hid (Grid wq' w.heap.size X b c (E + 1) (2 * E + 1) (tf e p)) ∧ Hid (Below w.heap.size w wq')) (fun pv _ => 2 * E + 2 - (intOf pv).toNat)
          case atStart => exact ⟨1, by omega, by omega, rfl, hg0, hb0⟩
          case round =>
            clear hg0 hb0
            obtain ⟨p, hp1, hp, rfl, hgr, hbe⟩ := hrel
            by_cases hltp : p ≤ 2 * E
            · have hd2 : decide ((p : Int) ≤ 2 * (E : Int)) = true := by simp; omega
              obtain ⟨m, hm⟩ : ∃ m : Nat, (p : Int) - 1 = m := ⟨p - 1, by omega⟩
              have HM : Hid (p = m + 1) := by unfold Hid; omega
              have HOK := Lib.hid (face_ok2 E (by omega) e (by omega) (by omega) p (by omega) (by omega))
              go_wp2_with fail
              go_loopw [7, 8] (fun sv iv wz => ∃ i d : Nat, i ≤ e ∧ iv = .int .i64 i ∧ sv = .int .i64 (fOut e p i) ∧ wz = wr.drewN d) (fun _ iv _ => e - (intOf iv).toNat)
              case atStart => exact ⟨0, 0, by omega, rfl, rfl, rfl⟩
              case round =>
                obtain ⟨i, d, hi, rfl, rfl, rfl⟩ := hrel
                by_cases hlti : i < e
                · have hd3 : decide ((i : Int) < (e : Int)) = true := by simp; omega
                  obtain ⟨h, hh⟩ : ∃ h : Nat, (f : Int) - i = h := ⟨f - i, by omega⟩
                  go_wp2_with fail
                  go_loopw [7, 9] (fun sv av wz => ∃ a d : Nat, a ≤ m ∧ av = .int .i64 a ∧ sv = .int .i64 (fIn e p i (fOut e p i) a) ∧ wz = wr.drewN d) (fun _ av _ => m - (intOf av).toNat)
                  case atStart => exact ⟨0, d, by omega, rfl, rfl, rfl⟩
                  case round =>
                    obtain ⟨a, d, ha, rfl, rfl, rfl⟩ := hrel
                    by_cases hlta : a < m
                    · have hd4 : decide ((a : Int) ≤ (p : Int) - 2) = true := by simp; omega
                      obtain ⟨q, hq⟩ : ∃ q : Nat, (p : Int) - 2 - a = q := ⟨m - 1 - a, by omega⟩
                      have b1 := hgr.out.out i (by omega)
                      have b2 := hgr.out.inn i (by omega) a (by omega)
                      have b3 := hgr.out.out h (by omega)
                      have b4 := hgr.out.inn h (by omega) q (by omega)
                      have t2 : tf e p i a = fF i a := by unfold tf; rw [if_pos (by omega)]
                      have t3 : tf e p h q = fF h q := by unfold tf; rw [if_pos (by omega)]
                      rw [t2] at b2; rw [t3] at b4
                      have i1 : i < E + 1 := by omega
                      have i2 : a < 2 * E + 1 := by omega
                      have i3 : h < E + 1 := by omega
                      have i4 : q < 2 * E + 1 := by omega
                      clear t2 t3
                      go_wp2_with fail
                      go_big_region
                      go_wp2_with fail
                      go_roundw
                      case rel => exact ⟨a + 1, _, by omega, by go_num, by rw [fIn, hf, hh, hq], rfl⟩
                      case measure => simp [intOf]; omega
                    · obtain rfl : a = m := by omega
                      have hd4 : decide ((a : Int) ≤ (p : Int) - 2) = false := by simp; omega
                      go_wp2_with fail
                      go_roundw
                      case rel => exact ⟨i + 1, _, by omega, by go_num, by rw [fOut, HM.out]; rfl, rfl⟩
                      case measure => simp [intOf]; omega
                · have hie : i = e := by omega
                  have hd3 : decide ((i : Int) < (e : Int)) = false := by simp; omega
                  have HIE := Lib.hid hie; clear hie
                  go_wp2_with fail
                  go_loopw [7, 10] (fun sv qv wz => ∃ j : Nat, j ≤ 2 * E + 1 - m ∧ qv = .int .i64 (m + j) ∧ sv = .int .i64 (fLast e p (fOut e p i) j) ∧ wz = wr.drewN d) (fun _ qv _ => 2 * E + 1 - (intOf qv).toNat)
                  case atStart => exact ⟨0, by omega, by go_num, rfl, rfl⟩
                  case round =>
                    obtain ⟨j, hj, rfl, rfl, rfl⟩ := hrel
                    by_cases hltj : j < 2 * E + 1 - m
                    · have hd4 : decide ((m : Int) + j ≤ 2 * (E : Int)) = true := by simp; omega
                      have b1 := hgr.out.out f (by omega)
                      have b2 := hgr.out.inn f (by omega) (m + j) (by omega)
                      have t2 : tf e p f (m + j) = fF f ((m + j : Nat) : Int) := by unfold tf; rw [if_pos (by omega)]
                      rw [t2] at b2
                      have i1 : f < E + 1 := by omega
                      have i2 : m + j < 2 * E + 1 := by omega
                      clear t2
                      go_wp2_with fail
                      go_roundw
                      case rel => exact ⟨j + 1, by omega, by go_num, by rw [fLast, hf, hm], trivial⟩
                      case measure => simp [intOf]; omega
                    · obtain rfl : j = 2 * E + 1 - m := by omega
                      have hd4 : decide ((m : Int) + ((2 * E + 1 - m : Nat) : Int) ≤ 2 * (E : Int)) = false := by simp; omega
                      have o1 := hgr.out.out e (by omega)
                      have o2 := hgr.out.inn e (by omega) p (by omega)
                      have o3 := hgr.out.fr e (by omega) p (by omega)
                      have i1 : e < E + 1 := by omega
                      have i2 : p < 2 * E + 1 := by omega
                      go_wp2_with fail
                      go_roundw
                      case rel =>
                        have hval : fLast (e : Int) p (fOut e p i) (2 * E + 1 - m) = fF e p := by rw [← HOK.out, HIE.out, HM.out]; rfl
                        rw [hval]
                        refine ⟨p + 1, by omega, by omega, by go_num, (hgr.out.drewN d).set i1 i2 _ (fun i' hi' j' hj' => ?_), (below_drewN hbe.out d).setCell (p := ⟨b e, p, none⟩) (hgr.out.lb e i1) _⟩
                        unfold tf
                        by_cases hh : i' = e ∧ j' = p
                        · rw [if_pos hh, if_pos (by omega), hh.1, hh.2]
                        · rw [if_neg hh]
                          by_cases h2 : i' < e ∨ (i' = e ∧ j' < p)
                          · rw [if_pos h2, if_pos (by omega)]
                          · rw [if_neg h2, if_neg (by omega)]
                      case measure => simp [intOf]; omega
            · obtain rfl : p = 2 * E + 1 := by omega
              have hd2 : decide (((2 * E + 1 : Nat) : Int) ≤ 2 * (E : Int)) = false := by simp; omega
              go_wp2_with fail
              go_roundw
              case rel =>
                refine ⟨e + 1, by omega, by omega, by go_num, hgr.out.congr (fun i' hi' j' hj' => ?_), hbe⟩
                unfold tf
                by_cases h2 : i' < e ∨ (i' = e ∧ j' < 2 * E + 1)
                · rw [if_pos h2, if_pos (by omega)]
                · rw [if_neg h2]
                  by_cases h3 : i' = e + 1 ∧ j' < 1
                  · rw [if_pos (by omega)]
                    exact (fF_edge (by omega) (by omega) (by omega) (by omega)).symm
                  · rw [if_neg (by omega)]
              case measure => simp [intOf]; omega
        · obtain rfl : e = E + 1 := by omega
          have hd1 : decide (((E + 1 : Nat) : Int) ≤ (E : Int)) = false := by simp; omega
          go_wp2_with fail
          go_ret
          exact ⟨X, c0, b, c, rfl, hg0.out, hb0.out⟩

end Go.Proofs.Ytiochmdedpookaa
