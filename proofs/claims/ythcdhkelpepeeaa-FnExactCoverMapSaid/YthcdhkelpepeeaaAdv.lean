/-
  The next permutation, the program's: a segment turned round in place; advance.
-/
import Derived.Test.YthcdhkelpepeeaaNext
namespace Go.Proofs.Ythcdhkelpepeeaa
open Go.RowKit
set_option linter.unusedVariables false

/-- The m numbers from off on, t pairs of them exchanged from outside in. -/
def revSeg (p : List Int) (off m t : Nat) : List Int := tab p.length fun j => if off ≤ j ∧ j < off + m ∧ (j - off < t ∨ m - t ≤ j - off) then gi p (off + (m - 1 - (j - off))) else gi p j
theorem revSeg_len (p : List Int) (off m t : Nat) : (revSeg p off m t).length = p.length := tab_len _ _
theorem revSeg_zero (p : List Int) (off m : Nat) : revSeg p off m 0 = p := by
  refine eq_of_gi (revSeg_len _ _ _ _) fun j hj => ?_
  rw [revSeg_len] at hj
  rw [revSeg, gi_tab hj, if_neg (by omega)]
theorem gi_set_ (xs : List Int) (k j : Nat) (u : Int) (hj : j < xs.length) : gi (xs.set k u) j = if j = k then u else gi xs j := by
  unfold gi
  simp only [List.getD_eq_getElem?_getD, List.getElem?_set]
  by_cases e : k = j
  · subst e; simp [hj]
  · rw [if_neg e, if_neg (fun h => e h.symm)]
theorem revSeg_step {p : List Int} {off m t : Nat} (ht : t < m - 1 - t) (hm : off + m ≤ p.length) :
    ((revSeg p off m t).set (off + t) (gi (revSeg p off m t) (off + (m - 1 - t)))).set (off + (m - 1 - t)) (gi (revSeg p off m t) (off + t)) = revSeg p off m (t + 1) := by
  have e1 : gi (revSeg p off m t) (off + (m - 1 - t)) = gi p (off + (m - 1 - t)) := by rw [revSeg, gi_tab (by omega), if_neg (by omega)]
  have e2 : gi (revSeg p off m t) (off + t) = gi p (off + t) := by rw [revSeg, gi_tab (by omega), if_neg (by omega)]
  refine eq_of_gi (by rw [List.length_set, List.length_set, revSeg_len, revSeg_len]) fun j hj => ?_
  rw [List.length_set, List.length_set, revSeg_len] at hj
  rw [gi_set_ _ _ _ _ (by rw [List.length_set, revSeg_len]; exact hj), gi_set_ _ _ _ _ (by rw [revSeg_len]; exact hj), e1, e2]
  have e3 : gi (revSeg p off m (t + 1)) j = if off ≤ j ∧ j < off + m ∧ (j - off < t + 1 ∨ m - (t + 1) ≤ j - off) then gi p (off + (m - 1 - (j - off))) else gi p j := by rw [revSeg, gi_tab hj]
  have e4 : gi (revSeg p off m t) j = if off ≤ j ∧ j < off + m ∧ (j - off < t ∨ m - t ≤ j - off) then gi p (off + (m - 1 - (j - off))) else gi p j := by rw [revSeg, gi_tab hj]
  rw [e3, e4]
  by_cases h1 : j = off + (m - 1 - t)
  · rw [if_pos h1, if_pos (by omega)]
    congr 1; omega
  · rw [if_neg h1]
    by_cases h2 : j = off + t
    · rw [if_pos h2, if_pos (by omega)]
      congr 1; omega
    · rw [if_neg h2]
      by_cases h3 : off ≤ j ∧ j < off + m ∧ (j - off < t ∨ m - t ≤ j - off)
      · rw [if_pos h3, if_pos (by omega)]
      · rw [if_neg h3, if_neg (by omega)]

theorem grown_drewN_ {w w' : World} {row : Option Nat} (h : w.grownBy w' row) (d : Nat) : w.grownBy (w'.drewN d) row := ⟨h.os, h.tape, h.output, h.size, h.block⟩

set_option maxHeartbeats 1600000 in
theorem reverse_perm (w : World) (lo g n c off m c2 : Nat) (p : List Int) (ho : Own w lo (.slice (some ⟨g, 0, none⟩) n c) p) (hl : p.length = n) (hm : off + m ≤ n) (hn : n ≤ 12) :
    Calls Try.prog 106 #[.slice (some ⟨g, off, none⟩) m c2] w fun e w' => e = .returned (.tuple #[]) ∧ Own w' lo (.slice (some ⟨g, 0, none⟩) n c) (revSeg p off m (m / 2)) ∧ w.grownBy w' (some g) := by
  have HO := Lib.hid ho; have HL := Lib.hid hl; clear ho hl
  go_enter Try.func106, Try.ntmps106
  go_wp2_with fail
  go_loopw [2, 3] (fun iv jv wz => ∃ (t : Nat) (z : Int), iv = .int .i64 t ∧ jv = .int .i64 z ∧ z = (m : Int) - 1 - t ∧ t ≤ m / 2 ∧ Hid (Own wz lo (.slice (some ⟨g, 0, none⟩) n c) (revSeg p off m t)) ∧ Hid (w.grownBy wz (some g))) (fun iv _ _ => m / 2 - (intOf iv).toNat)
  case atStart => exact ⟨0, _, rfl, rfl, by omega, by omega, by rw [Hid, revSeg_zero]; exact HO.out, ⟨rfl, rfl, rfl, Nat.le_refl _, fun _ _ _ => rfl⟩⟩
  case round =>
    obtain ⟨t, z, rfl, rfl, hz, ht, hos, hg⟩ := hrel
    by_cases hlt : t < m / 2
    · obtain ⟨j, hj⟩ : ∃ j : Nat, z = j := ⟨z.toNat, by omega⟩
      subst hj
      have hjm : j = m - 1 - t := by omega
      have htj : t < j := by omega
      clear hz
      have hzl : (revSeg p off m t).length = n := (revSeg_len _ _ _ _).trans HL.out
      obtain ⟨g', e, -, c1, f1⟩ := hos.out.cellAt hzl (k := off + t) (by omega)
      simp only [Option.some.injEq, Addr.mk.injEq, and_true] at e
      subst e
      obtain ⟨g', e, -, c2', f2⟩ := hos.out.cellAt hzl (k := off + j) (by omega)
      simp only [Option.some.injEq, Addr.mk.injEq, and_true] at e
      subst e
      have HST : Hid (((revSeg p off m t).set (off + t) (gi (revSeg p off m t) (off + j))).set (off + j) (gi (revSeg p off m t) (off + t)) = revSeg p off m (t + 1)) := by
        rw [Hid, hjm]; exact revSeg_step (by omega) (by rw [HL.out]; exact hm)
      obtain ⟨x, hx⟩ : ∃ x, gi (revSeg p off m t) (off + t) = x := ⟨_, rfl⟩
      obtain ⟨y, hy⟩ : ∃ y, gi (revSeg p off m t) (off + j) = y := ⟨_, rfl⟩
      rw [hx] at c1; rw [hy] at c2'
      rw [hx, hy] at HST
      have HX := Lib.hid hx; have HY := Lib.hid hy
      have hdt : decide ((t : Int) < (j : Int)) = true := by simp; omega
      have i1 : (t : Int) < (m : Int) := by omega
      have i2 : (j : Int) < (m : Int) := by omega
      have hne : ¬ (off + t = off + j) := by omega
      have HJM := Lib.hid hjm
      clear hx hy hjm
      go_wp2_with fail
      go_big_region
      go_wp2_with fail
      go_roundw
      case rel =>
        have s1 := hos.out.stored hzl (off + t) y
        have s2 := s1.1.stored (by rw [List.length_set]; exact hzl) (off + j) x
        have hjm := HJM.out
        refine ⟨t + 1, _, by go_num, rfl, by omega, by omega, ?_, ?_⟩
        · rw [← HST.out]; exact s2.1
        · exact grown_drewN_ (grownBy_trans hg.out (grownBy_trans s1.2 s2.2)) 1
      case measure => simp [intOf] <;> omega
    · have hte : t = m / 2 := by omega
      have hdt : decide ((t : Int) < z) = false := by simp; omega
      have HTE := Lib.hid hte
      clear hz hlt ht hte
      go_wp2_with fail
      go_end0
      exact ⟨rfl, by rw [← HTE.out]; exact hos.out, hg.out⟩

def exch (p : List Int) (a k : Nat) : List Int := (p.set a (gi p k)).set k (gi p a)
theorem exch_len (p : List Int) (a k : Nat) : (exch p a k).length = p.length := by simp [exch]
theorem gi_exch {p : List Int} {a k j : Nat} (hj : j < p.length) (hak : a ≠ k) : gi (exch p a k) j = if j = k then gi p a else if j = a then gi p k else gi p j := by
  rw [exch, gi_set_ _ _ _ _ (by rw [List.length_set]; exact hj), gi_set_ _ _ _ _ hj]
theorem next_rev {p : List Int} {a k : Nat} (hak : a < k) (hk : k < p.length) : revSeg (exch p a k) (a + 1) (p.length - (a + 1)) ((p.length - (a + 1)) / 2) = nextP p a k := by
  refine eq_of_gi (by rw [revSeg_len, exch_len, nextP_len]) fun j hj => ?_
  rw [revSeg_len, exch_len] at hj
  rw [revSeg, gi_tab (by rw [exch_len]; exact hj), nextP, gi_tab hj]
  by_cases h1 : j < a
  · rw [if_neg (by omega), if_pos h1, gi_exch hj (by omega), if_neg (by omega), if_neg (by omega)]
  · rw [if_neg h1]
    by_cases h2 : j = a
    · rw [if_neg (by omega), if_pos h2, gi_exch hj (by omega), if_neg (by omega), if_pos h2]
    · rw [if_neg h2, swapAt]
      by_cases h3 : a + 1 ≤ j ∧ j < a + 1 + (p.length - (a + 1)) ∧ (j - (a + 1) < (p.length - (a + 1)) / 2 ∨ p.length - (a + 1) - (p.length - (a + 1)) / 2 ≤ j - (a + 1))
      · rw [if_pos h3, gi_exch (by omega) (by omega), show a + 1 + (p.length - (a + 1) - 1 - (j - (a + 1))) = p.length - (j - a) from by omega]
        by_cases h4 : p.length - (j - a) = k
        · rw [if_pos h4, if_pos h4]
        · rw [if_neg h4, if_neg h4, if_neg (by omega)]
      · have h5 : p.length - (j - a) = j := by omega
        rw [if_neg h3, gi_exch hj (by omega), h5]
        by_cases h4 : j = k
        · rw [if_pos h4, if_pos h4]
        · rw [if_neg h4, if_neg h4, if_neg h2]

set_option maxRecDepth 20000 in
set_option maxHeartbeats 3200000 in
theorem advance_any (w : World) (lo g n c : Nat) (p : List Int) (ho : Own w lo (.slice (some ⟨g, 0, none⟩) n c) p) (hl : p.length = n) (h1 : 1 ≤ n) (hn : n ≤ 12) (hc : n ≤ c) :
    Calls Try.prog 85 #[.slice (some ⟨g, 0, none⟩) n c] w fun e w' =>
      e = .returned (.bool (decide (atR p (n - 1) ≠ 0))) ∧ (atR p (n - 1) ≠ 0 → Own w' lo (.slice (some ⟨g, 0, none⟩) n c) (nextL p)) ∧ w.grownBy w' (some g) := by
  have HO := Lib.hid ho; have Hx := Lib.hid hl; clear ho hl
  have hcell : ∀ k, k < n → w.cell? ⟨g, k, none⟩ = some (.int .i64 (gi p k)) ∧ w.frozen? ⟨g, k, none⟩ = false := fun k hk => by
    obtain ⟨g', e, -, c1, f1⟩ := HO.out.cellAt Hx.out hk
    simp only [Option.some.injEq, Addr.mk.injEq, and_true] at e
    subst e
    exact ⟨c1, f1⟩
  have HCELL := Lib.hid hcell; clear hcell
  have HG0 : Hid (∀ d, w.grownBy (w.drewN d) (some g)) := fun d => ⟨rfl, rfl, rfl, Nat.le_refl _, fun _ _ _ => rfl⟩
  go_enter Try.func85, Try.ntmps85
  go_wp2_with fail
  go_loopw [3] (fun iv wz => ∃ (i d : Nat) (z : Int), iv = .int .i64 z ∧ z = (i : Int) - 1 ∧ i ≤ n - 1 ∧ Hid (atR p (n - 1) = atR p i) ∧ wz = w.drewN d) (fun iv _ => ((intOf iv) + 1).toNat)
  case atStart => exact ⟨n - 1, 0, _, rfl, by omega, by omega, rfl, rfl⟩
  case round =>
    obtain ⟨i, d, z, rfl, hz, hi, hat, rfl⟩ := hrel
    by_cases h0 : i = 0
    · obtain rfl : z = -1 := by omega
      have HN : Hid (atR p (n - 1) = 0) := by rw [Hid, hat.out, h0, atR]
      clear hz h0 hi hat
      go_wp2_with fail
      go_quiet (fail)
      go_wp2_with fail
      go_ret
      exact ⟨by rw [HN.out]; rfl, fun h => absurd HN.out h, HG0.out _⟩
    · obtain ⟨a, rfl⟩ : ∃ a, i = a + 1 := ⟨i - 1, by omega⟩
      obtain rfl : z = (a : Int) := by omega
      clear hz h0
      obtain ⟨q1, f1⟩ := HCELL.out a (by omega)
      obtain ⟨b, hb⟩ : ∃ b, a + 1 = b := ⟨_, rfl⟩
      obtain ⟨q2, f2⟩ := HCELL.out b (by omega)
      have z1 : (a : Int) < (n : Int) := by omega
      have z2 : (b : Int) < (n : Int) := by omega
      have hw1 : IntKind.i64.wrap ((a : Int) + 1) = (b : Int) := by rw [IntWalk.i64_in _ (by omega)]; omega
      have HBB := Lib.hid hb
      by_cases hd : gi p b < gi p a
      · have HA : Hid (atR p (n - 1) = atR p a) := by rw [Hid, hat.out, atR, hb, if_pos hd]
        obtain ⟨x, hx⟩ : ∃ x, gi p a = x := ⟨_, rfl⟩
        obtain ⟨y, hy⟩ : ∃ y, gi p b = y := ⟨_, rfl⟩
        rw [hx] at q1 hd; rw [hy] at q2 hd
        have hdd : decide (y < x) = true := by simpa using hd
        clear hx hy hat hb
        go_wp2_with fail
        go_quiet (fail)
        go_wp2_with fail
        go_roundw
        case rel => exact ⟨a, _, _, rfl, by omega, by omega, HA, rfl⟩
        case measure => simp [intOf] <;> omega
      · have HA : Hid (atR p (n - 1) = a + 1) := by rw [Hid, hat.out, atR, hb, if_neg hd]
        have HUP := Lib.hid hd
        obtain ⟨x, hx⟩ : ∃ x, gi p a = x := ⟨_, rfl⟩
        obtain ⟨y, hy⟩ : ∃ y, gi p b = y := ⟨_, rfl⟩
        rw [hx] at q1 hd; rw [hy] at q2 hd
        have hdd : decide (y < x) = false := by simpa using hd
        have HX := Lib.hid hx
        clear hx hy hat hd hb
        go_wp2_with fail
        go_quiet (fail)
        go_wp2_with fail
        clear q2 f2
        go_loopw [4] (fun kv wz => ∃ (k d : Nat) (z : Int), kv = .int .i64 z ∧ z = (k : Int) ∧ a + 1 ≤ k ∧ k ≤ n - 1 ∧ Hid (wR p a (n - 1) = wR p a k) ∧ wz = w.drewN d) (fun kv _ => (intOf kv).toNat)
        case atStart => exact ⟨n - 1, _, _, rfl, by omega, by omega, by omega, rfl, rfl⟩
        case round =>
          obtain ⟨k, d2, z, rfl, hz, hk1, hk2, hwk, rfl⟩ := hrel
          obtain ⟨k', hk'⟩ : ∃ k', k = k' + 1 := ⟨k - 1, by omega⟩
          obtain rfl : z = (k : Int) := by omega
          clear hz
          obtain ⟨q3, f3⟩ := HCELL.out k (by omega)
          have z3 : (k : Int) < (n : Int) := by omega
          by_cases hd : gi p k < gi p a
          · have hne : k ≠ a + 1 := fun e => by
              rw [e, HBB.out] at hd
              have := HUP.out
              omega
            have HW : Hid (wR p a (n - 1) = wR p a k') := by rw [Hid, hwk.out, hk', wR, ← hk', if_pos hd]
            obtain ⟨u, hu⟩ : ∃ u, gi p k = u := ⟨_, rfl⟩
            rw [hu] at q3 hd; rw [HX.out] at hd
            have hdd2 : decide (u < x) = true := by simpa using hd
            have HK := Lib.hid hk'
            clear hu hwk hk'
            go_wp2_with fail
            go_quiet (fail)
            go_wp2_with fail
            go_roundw
            case rel => exact ⟨k', _, _, rfl, by have := HK.out; omega, by have := HK.out; omega, by have := HK.out; omega, HW, rfl⟩
            case measure => simp [intOf] <;> omega
          · have HW : Hid (wR p a (n - 1) = k) := by rw [Hid, hwk.out, hk', wR, ← hk', if_neg hd]
            obtain ⟨u, hu⟩ : ∃ u, gi p k = u := ⟨_, rfl⟩
            rw [hu] at q3 hd; rw [HX.out] at hd
            have hdd2 : decide (u < x) = false := by simpa using hd
            have HU := Lib.hid hu; have HK := Lib.hid hk'
            clear hu hwk hd hk'
            have hne : ¬ (a = k) := by omega
            have hac2 : (a : Int) + 1 ≤ (n : Int) := by omega
            have HNL : Hid (nextL p = nextP p a k) := by rw [Hid, nextL, Hx.out, HA.out, if_neg (by omega), Nat.add_sub_cancel, HW.out]
            have HNR : Hid (revSeg (exch p a k) (a + 1) (n - (a + 1)) ((n - (a + 1)) / 2) = nextP p a k) := by
              rw [Hid, ← Hx.out]; exact next_rev (by omega) (by rw [Hx.out]; omega)
            have HOWN : Hid (∀ D, Own (((w.drewN D).setCell ⟨g, a, none⟩ (.int .i64 u)).setCell ⟨g, k, none⟩ (.int .i64 x)) lo (.slice (some ⟨g, 0, none⟩) n c) (exch p a k) ∧ w.grownBy (((w.drewN D).setCell ⟨g, a, none⟩ (.int .i64 u)).setCell ⟨g, k, none⟩ (.int .i64 x)) (some g)) := fun D => by
              have h0 : Own (w.drewN D) lo (.slice (some ⟨g, 0, none⟩) n c) p := HO.out
              have s1 := h0.stored Hx.out a u
              have s2 := s1.1.stored (by rw [List.length_set]; exact Hx.out) k x
              rw [exch, HU.out, HX.out]
              exact ⟨s2.1, grownBy_trans (HG0.out D) (grownBy_trans s1.2 s2.2)⟩
            go_wp2_with fail
            go_quiet (fail)
            go_wp2_with fail
            go_big_region
            go_wp2_with fail
            refine (reverse_perm _ lo g n c b (n - b) (c - b) (exch p a k) (HOWN.out _).1 ((exch_len _ _ _).trans Hx.out) (by omega) hn).mono ?_
            rintro e w3 ⟨rfl, o3, g3⟩
            have HO3 := Lib.hid o3
            have HG3 := Lib.hid (grownBy_trans (HOWN.out _).2 g3)
            clear o3 g3
            go_wp2_with fail
            go_ret
            exact ⟨by rw [HA.out]; rfl, fun _ => by rw [HNL.out, ← HNR.out, HBB.out]; exact HO3.out, HG3.out⟩

end Go.Proofs.Ythcdhkelpepeeaa
