/-
  Maps by genus, the model's table.
-/
import Derived.Test.YtfcgfeopmnjfjaaGrid
import Derived.Test.YtfcgfeopmnjfjaaRunJ
import Derived.Test.YtfcgfeopmnjfjaaCnt
namespace Go.Proofs.Ytfcgfeopmnjfjaa
open Go.RowKit Go.Maps
set_option linter.unusedVariables false

def tq (e g : Nat) (i j : Nat) : Int := if j < e ∨ (j = e ∧ i < g) then qF j i else 0
/-- The model's sums, as they go; e is one less than the edges. -/
def sB (e g : Int) : Int := if 0 < g ∧ 0 < e then wrap64 (wrap64 (4 * (4 * (e + 1) - 2) * qF e g) + wrap64 (wrap64 (wrap64 ((2 * (e + 1) - 3) * (2 * (e + 1) - 2)) * (2 * (e + 1) - 1)) * qF (e - 1) (g - 1))) else wrap64 (4 * (4 * (e + 1) - 2) * qF e g)
def sIn (e g k : Int) (s : Int) : Nat → Int
  | 0 => s
  | i + 1 => wrap64 (sIn e g k s i + wrap64 (wrap64 (wrap64 (6 * (2 * (k + 1) - 1) * (2 * (e + 1 - (k + 1)) - 1)) * qF k i) * qF (e - (k + 1)) (g - i)))
def sOut (e g : Int) (s : Int) : Nat → Int
  | 0 => s
  | k + 1 => sIn e g k (sOut e g s k) (g.toNat + 1)

theorem specg_ok : ∀ e : Nat, e < 9 → ∀ g : Nat, g < 6 → wrap64 ((sOut e g (sB e g) e).tdiv (2 * ((e : Int) + 1 + 1))) = qF ((e + 1 : Nat) : Int) g := by decide +kernel

set_option maxRecDepth 20000 in
set_option maxHeartbeats 3200000 in
theorem l3Table_any (w : World) (E : Nat) (hE : E ≤ 9) :
    Calls Try.prog 65 #[.int .i64 E] w fun x w' => ∃ X c0 b c, x = .returned (.slice (some ⟨X, 0, none⟩) 6 c0) ∧ Grid w' w.heap.size X b c 6 (E + 1) (tq (E + 1) 0) ∧ Below w.heap.size w w' := by
  obtain ⟨i0, hinf, hz0, hz1, hz2⟩ := info_parts info_int
  obtain ⟨i1, hinf1, hy0, hy1, hy2⟩ := info_parts info_slice
  go_enter Try.func65, Try.ntmps65
  go_wp2_with fail
  go_loopw [3, 4] (fun v' kv' wr => ∃ (v : Value) (k : Nat), v = v' ∧ k ≤ 6 ∧ kv' = .int .i64 k ∧ Hid (OwnSS wr w.heap.size wr.heap.size v (List.replicate k (List.replicate (E + 1) 0))) ∧ Hid (Below w.heap.size w wr)) (fun _ kv' _ => 6 - (intOf kv').toNat)
  case atStart => exact ⟨_, 0, rfl, by omega, rfl, OwnSS.empty (Nat.le_refl _), (Below.refl _ _).alloc (Nat.le_refl _) _⟩
  case round =>
    obtain ⟨v, k, rfl, hk, rfl, hos, hb⟩ := hrel
    have hbs := hb.out.size
    by_cases hlt : k < 6
    · have hlen : (List.replicate k (List.replicate (E + 1) (0 : Int))).length = k := by simp
      go_wp2_with (first
        | (at_make; refine wpList_make_full _ rfl _ _ 30 rfl w.heap.size 3 i0 (.int .i64 0) 1 Try.underlying30 hinf hz0 hz1 .i64 .i64 _ _ (E + 1) rfl rfl rfl rfl (by rw [hz2]; omega) (by unfold maxLen; omega) hbs ?_; intro w1 hown1 hgrow1; have HU := Lib.hid (Own.made hown1); have HG1 := Lib.hid hgrow1; clear hown1 hgrow1; have HS1 := Lib.hid (HG1.out.size); obtain ⟨vs, hvl, hvo, hvr, hvd⟩ := hos.out.below (below_of_grown HG1.out (Nat.le_refl _) (fun k hk => by cases hk)); have HVL := Lib.hid hvl; have HVO := Lib.hid hvo; have HVR := Lib.hid hvr; have HVD := Lib.hid hvd; clear hvl hvo hvr hvd; have hs1 := HS1.out)
        | (at_builtin; refine wpList_append_own _ rfl (.tmp 15) (.tmp 19) 63 rfl w.heap.size 30 i1 (.slice none 0 0) 1 24 Try.underlying63 hinf1 hy0 hy1 hy2 rfl (by decide) _ _ _ rfl (HVO.out.alloc _) ⟨w1.heap.size, 0, none⟩ 1 1 [.slice (some ⟨wr.heap.size, 0, none⟩) (E + 1) (E + 1)] rfl rfl (cell_one_new _ _ _) (by intro u hu; simp at hu; subst hu; rfl) (by rw [hlen]; unfold maxLen; omega) (by rw [hlen]; omega) (by simp; omega) ?_; intro v2 w2 hown2 hgrow2 _; have HO2 := Lib.hid hown2; have HG2 := Lib.hid hgrow2; clear hown2 hgrow2))
      go_roundw
      case rel =>
        have hba : Below w1.heap.size w1 (w1.alloc (.cells #[.slice (some ⟨wr.heap.size, 0, none⟩) (E + 1) (E + 1)] 30)) := (Below.refl _ _).alloc (Nat.le_refl _) _
        have hsz2 := HG2.out.size
        rw [World.size_alloc] at hsz2
        have hb2 := ((hb.out.grown HG1.out hbs (fun k hk => by cases hk)).alloc (by omega) (.cells #[.slice (some ⟨wr.heap.size, 0, none⟩) (E + 1) (E + 1)] 30)).grown HG2.out (by simp; omega) (fun k hk => (HVO.out.lt k hk).1)
        have hwlt : wr.heap.size < w1.heap.size := (HU.out.lt _ rfl).2
        refine ⟨_, k + 1, rfl, by omega, by go_num, ?_, hb2⟩
        rw [List.replicate_succ' (n := k)]
        exact OwnSS.snoc (hi := wr.heap.size) HVL.out (fun j hj => ⟨(HVR.out j hj).1.below hba, (HVR.out j hj).2⟩) HVD.out (HVO.out.alloc _) (HU.out.below hba) (fun k hk => by simp [Value.ownBlock] at hk; omega) (by omega) (fun k hk => by simp [Value.ownBlock] at hk; omega) HO2.out HG2.out
      case measure => simp [intOf]; omega
    · obtain rfl : k = 6 := by omega
      obtain ⟨X, c0, b, c, rfl, hgr⟩ := hos.out.grid (m := 6) (n := E + 1) (by simp) (by omega) (fun i hi => by rw [getD_rep _ _ hi]; simp) (by omega)
      have hgr0 : Grid wr w.heap.size X b c 6 (E + 1) (fun _ _ => 0) := hgr.congr (fun i hi j hj => by rw [getD_rep _ _ hi, gi_rep _ _ hj])
      have HGR := Lib.hid hgr0; clear hos hgr hgr0
      have o0 := HGR.out.out 0 (by omega)
      have o1 := HGR.out.inn 0 (by omega) 0 (by omega)
      have o2 := HGR.out.fr 0 (by omega) 0 (by omega)
      have hgr1 : Grid (wr.setCell ⟨b 0, 0, none⟩ (.int .i64 1)) w.heap.size X b c 6 (E + 1) (tq 1 0) := HGR.out.set (by omega) (by omega) 1 (fun i hi j hj => by
        unfold tq
        by_cases h : i = 0 ∧ j = 0
        · rw [if_pos h, if_pos (by omega), h.1, h.2]; rfl
        · rw [if_neg h]
          by_cases h2 : j < 1
          · rw [if_pos (by omega)]
            obtain rfl : j = 0 := by omega
            have : ∀ i : Nat, i < 6 → i ≠ 0 → qF (0 : Nat) i = 0 := by decide +kernel
            exact this i hi (by omega)
          · rw [if_neg (by omega)])
      have HG1 := Lib.hid hgr1; clear hgr1
      have HB1 := Lib.hid (hb.out.setCell (p := ⟨b 0, 0, none⟩) (HGR.out.lb 0 (by omega)) (.int .i64 1))
      go_wp2_with fail
      obtain ⟨W1, hW1⟩ : ∃ W, wr.setCell ⟨b 0, 0, none⟩ (.int .i64 1) = W := ⟨_, rfl⟩
      rw [hW1] at HG1 HB1 ⊢
      clear o0 o1 o2 HGR hb hbs hW1 hlt hinf hz0 hz1 hz2 hinf1 hy0 hy1 hy2
      go_loopw [5] (fun ev wq => ∃ e : Nat, e ≤ E ∧ ev = .int .i64 (e + 1) ∧ Hid (Grid wq w.heap.size X b c 6 (E + 1) (tq (e + 1) 0)) ∧ Hid (Below w.heap.size w wq)) (fun ev _ => E + 2 - (intOf ev).toNat)
      case atStart => exact ⟨0, by omega, rfl, HG1, HB1⟩
      case round =>
        clear HG1 HB1
        obtain ⟨e, he, rfl, hg0, hb0⟩ := hrel
        by_cases hlte : e < E
        · have hd1 : decide ((e : Int) + 1 ≤ (E : Int)) = true := by simp; omega
          go_wp2_with fail
          go_loopw [6] (fun gv wq' => ∃ g : Nat, g ≤ 6 ∧ gv = .int .i64 g ∧ Hid (Grid wq' w.heap.size X b c 6 (E + 1) (tq (e + 1) g)) ∧ Hid (Below w.heap.size w wq')) (fun gv _ => 6 - (intOf gv).toNat)
          case atStart => exact ⟨0, by omega, rfl, hg0, hb0⟩
          case round =>
            clear hg0 hb0
            obtain ⟨g, hg, rfl, hgr, hbe⟩ := hrel
            by_cases hltg : g < 6
            · have hd2 : decide ((g : Int) ≤ 5) = true := by simp; omega
              have a1 := hgr.out.out g hltg
              have a2 := hgr.out.inn g hltg e (by omega)
              have t1 : tq (e + 1) g g e = qF e g := by unfold tq; rw [if_pos (by omega)]
              rw [t1] at a2
              have arms : (g = 0) ∨ (0 < g ∧ e = 0) ∨ (0 < g ∧ 0 < e) := by omega
              rcases arms with h0 | ⟨h0, h1⟩ | ⟨h0, h1⟩
              case' inl =>
                have hd3 : decide (0 < g) = false := by simp; omega
                have H0 := Lib.hid h0; clear h0
                go_wp2_with fail
                obtain ⟨Bv, hBv⟩ : ∃ B, wrap64 (4 * (4 * ((e : Int) + 1) - 2) * qF e g) = B := ⟨_, rfl⟩
                rw [hBv]
                have HBV : Hid (Bv = sB e g) := by unfold Hid sB; rw [if_neg (by have := H0.out; omega), ← hBv]
                clear hBv t1 a1 a2
              case' inr.inl =>
                have hd3 : decide ((0 : Int) < (g : Int)) = true := by simp; omega
                have hd4 : decide ((1 : Int) < (e : Int) + 1) = false := by simp; omega
                have hd4' : decide (0 < e) = false := by simp; omega
                have H0 := Lib.hid h1; clear h1
                go_wp2_with fail
                obtain ⟨Bv, hBv⟩ : ∃ B, wrap64 (4 * (4 * ((e : Int) + 1) - 2) * qF e g) = B := ⟨_, rfl⟩
                rw [hBv]
                have HBV : Hid (Bv = sB e g) := by unfold Hid sB; rw [if_neg (by have := H0.out; omega), ← hBv]
                clear hBv t1 a1 a2
              case' inr.inr =>
                have hd3 : decide ((0 : Int) < (g : Int)) = true := by simp; omega
                have hd4 : decide ((1 : Int) < (e : Int) + 1) = true := by simp; omega
                obtain ⟨g1, hg1⟩ : ∃ g1 : Nat, (g : Int) - 1 = g1 := ⟨g - 1, by omega⟩
                obtain ⟨e1, he1⟩ : ∃ e1 : Nat, (e : Int) - 1 = e1 := ⟨e - 1, by omega⟩
                have he1' : (e : Int) + 1 - 2 = e1 := by omega
                have a3 := hgr.out.out g1 (by omega)
                have a4 := hgr.out.inn g1 (by omega) e1 (by omega)
                have t2 : tq (e + 1) g g1 e1 = qF (e - 1) (g - 1) := by unfold tq; rw [if_pos (by omega), hg1, he1]
                rw [t2] at a4
                go_wp2_with fail
                obtain ⟨Bv, hBv⟩ : ∃ B, wrap64 (wrap64 (4 * (4 * ((e : Int) + 1) - 2) * qF e g) + wrap64 (wrap64 (wrap64 ((2 * ((e : Int) + 1) - 3) * (2 * ((e : Int) + 1) - 2)) * (2 * ((e : Int) + 1) - 1)) * qF e1 g1)) = B := ⟨_, rfl⟩
                rw [hBv]
                have HBV : Hid (Bv = sB e g) := by unfold Hid sB; rw [if_pos (by omega), ← hBv, ← he1, ← hg1]
                clear hBv t1 t2 a1 a2 a3 a4
              all_goals
                go_loopw [7, 8] (fun sv kv' wz => ∃ k d : Nat, k ≤ e ∧ kv' = .int .i64 (k + 1) ∧ sv = .int .i64 (sOut e g Bv k) ∧ wz = wr.drewN d) (fun _ kv' _ => e + 1 - (intOf kv').toNat)
                case atStart => exact ⟨0, 0, by omega, rfl, rfl, rfl⟩
                case round =>
                  obtain ⟨k, d, hk, rfl, rfl, rfl⟩ := hrel
                  by_cases hltk : k < e
                  · have hd5 : decide ((k : Int) + 1 < (e : Int) + 1) = true := by simp; omega
                    go_wp2_with fail
                    go_loopw [7, 9] (fun sv iv wz => ∃ i d : Nat, i ≤ g + 1 ∧ iv = .int .i64 i ∧ sv = .int .i64 (sIn e g k (sOut e g Bv k) i) ∧ wz = wr.drewN d) (fun _ iv _ => g + 1 - (intOf iv).toNat)
                    case atStart => exact ⟨0, d, by omega, rfl, rfl, rfl⟩
                    case round =>
                      obtain ⟨i, d, hi, rfl, rfl, rfl⟩ := hrel
                      by_cases hlti : i ≤ g
                      · have hd6 : decide ((i : Int) ≤ (g : Int)) = true := by simp; omega
                        obtain ⟨h, hh⟩ : ∃ h : Nat, (g : Int) - i = h := ⟨g - i, by omega⟩
                        obtain ⟨p, hp⟩ : ∃ p : Nat, (e : Int) - (k + 1) = p := ⟨e - (k + 1), by omega⟩
                        have hp1 : (e : Int) + 1 - (k + 1) - 1 = p := by omega
                        have hp2 : (e : Int) - k - 1 = p := by omega
                        have b1 := hgr.out.out i (by omega)
                        have b2 := hgr.out.inn i (by omega) k (by omega)
                        have b3 := hgr.out.out h (by omega)
                        have b4 := hgr.out.inn h (by omega) p (by omega)
                        have t2 : tq (e + 1) g i k = qF k i := by unfold tq; rw [if_pos (by omega)]
                        have t3 : tq (e + 1) g h p = qF p h := by unfold tq; rw [if_pos (by omega)]
                        rw [t2] at b2; rw [t3] at b4
                        have i1 : i < 6 := by omega
                        have i2 : k < E + 1 := by omega
                        have i3 : h < 6 := by omega
                        have i4 : p < E + 1 := by omega
                        have HP := Lib.hid hp; have HH := Lib.hid hh
                        clear t2 t3 hp hp2 hi hk
                        go_wp2_with fail
                        go_big_region
                        go_wp2_with fail
                        go_roundw
                        case rel => exact ⟨i + 1, _, by omega, by go_num, by rw [sIn, HP.out, HH.out], rfl⟩
                        case measure => simp [intOf]; omega
                      · obtain rfl : i = g + 1 := by omega
                        go_wp2_with fail
                        go_roundw
                        case rel => exact ⟨k + 1, _, by omega, by go_num, rfl, rfl⟩
                        case measure => simp [intOf]; omega
                  · have hke : k = e := by omega
                    have hd5 : decide ((k : Int) + 1 < (e : Int) + 1) = false := by simp; omega
                    have hd6 : decide (k < e) = false := by simp; omega
                    have o1 := hgr.out.out g hltg
                    have o2 := hgr.out.inn g hltg (e + 1) (by omega)
                    have o3 := hgr.out.fr g hltg (e + 1) (by omega)
                    have i1 : g < 6 := hltg
                    have i2 : e + 1 < E + 1 := by omega
                    have z1 : ¬ (2 * ((e : Int) + 1 + 1) = 0) := by omega
                    have HKE := Lib.hid hke; clear hke hltk hk
                    go_wp2_with fail
                    go_big_region
                    go_wp2_with fail
                    go_roundw
                    case rel =>
                      have hval : wrap64 ((sOut (e : Int) g Bv k).tdiv (2 * ((e : Int) + 1 + 1))) = qF ((e + 1 : Nat) : Int) g := by rw [HKE.out, HBV.out]; exact specg_ok e (by omega) g hltg
                      rw [hval]
                      refine ⟨g + 1, by omega, by go_num, (hgr.out.drewN (d + 1)).set hltg (by omega) _ (fun i' hi' j' hj' => ?_), (below_drewN hbe.out (d + 1)).setCell (p := ⟨b g, e + 1, none⟩) (hgr.out.lb g hltg) _⟩
                      unfold tq
                      by_cases hh : i' = g ∧ j' = e + 1
                      · rw [if_pos hh, if_pos (by omega), hh.1, hh.2]
                      · rw [if_neg hh]
                        by_cases h2 : j' < e + 1 ∨ (j' = e + 1 ∧ i' < g)
                        · rw [if_pos h2, if_pos (by omega)]
                        · rw [if_neg h2, if_neg (by omega)]
                    case measure => simp [intOf]; omega
            · obtain rfl : g = 6 := by omega
              go_wp2_with fail
              go_roundw
              case rel =>
                refine ⟨e + 1, by omega, by go_num, hgr.out.congr (fun i' hi' j' hj' => ?_), hbe⟩
                unfold tq
                by_cases h2 : j' < e + 1 ∨ (j' = e + 1 ∧ i' < 6)
                · rw [if_pos h2, if_pos (by omega)]
                · rw [if_neg h2, if_neg (by omega)]
              case measure => simp [intOf]; omega
        · obtain rfl : e = E := by omega
          go_wp2_with fail
          go_ret
          exact ⟨X, c0, b, c, rfl, hg0.out, hb0.out⟩

end Go.Proofs.Ytfcgfeopmnjfjaa
