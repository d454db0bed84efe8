/-
  Plain: the choice of all edges and that of none: parts, sides, genus.
  All numbers less than n: the laws' own list.
-/
import Derived.Test.YtcenffndclpjoaaDelQR
import Derived.Test.YtcenffndclpjoaaRestQ
import Derived.Test.YtcenffndclpjoaaGenus
import Derived.Test.YtcenffndclpjoaaAppI
namespace Go.Proofs.Ytcenffndclpjoaa

/-- All numbers less than n. -/
def allN (n : Nat) : List Int := (List.range n).map fun (i : Nat) => (i : Int)
theorem allN_len (n : Nat) : (allN n).length = n := by simp [allN]
theorem allN_succ (n : Nat) : allN (n + 1) = allN n ++ [(n : Int)] := by simp [allN, List.range_succ]
theorem allN_in : ∀ h : Nat, h < 7 → 2 ^ h - 1 < 64 ∧ 2 ^ h - 1 < 2 ^ h ∧ bL (2 ^ h - 1) = allN h ∧ (∀ j : Nat, j < h → (2 ^ h - 1).testBit j = true) ∧ ascB h (allN h) = true ∧ ascB h [] = true ∧ bL 0 = [] := by decide +kernel
section
variable {t f : List Int}
theorem flip_all (hm : IsMap t f) : flipS f (2 ^ (f.length / 2) - 1) = f := by
  have h12 := hm.flip.2.1
  have hh : lesN f f.length = f.length / 2 := by have := lesN_half hm.flip hm.paired; omega
  refine eq_of_gi (flipS_len _ _) fun d hd => ?_
  rw [flipS_len] at hd
  have hlt := edgN_lt hm.flip hm.paired hd
  rw [hh] at hlt
  rw [gi_flipS hd, if_pos]
  unfold chB
  exact (allN_in (f.length / 2) (by omega)).2.2.2.1 _ hlt
theorem gn_flip_none {y : Nat} (hy : y < f.length) : gn (flipS f 0) y = y := by
  rw [gn_flipS hy, if_neg]
  unfold chB
  simp
theorem pts_all (hm : IsMap t f) : ptsN t f (2 ^ (f.length / 2) - 1) = 1 := by
  rw [ptsN, flip_all hm]
  exact one_part hm.turn hm.flip hm.len hm.turn.1 fun y hy => hm.lead hm.turn.1 hy
theorem sid_all (hm : IsMap t f) : sidN t f (2 ^ (f.length / 2) - 1) = cntF t f := by
  rw [sidN, sidL, flip_all hm]; rfl
theorem sid_none (hm : IsMap t f) : sidN t f 0 = cntV t := by
  rw [sidN, cntV]
  congr 2
  refine eq_of_gi (by rw [sidL_len, hm.len]) fun d hd => ?_
  rw [sidL_len] at hd
  have h : gi (sidL t f 0) d = gi t (gn (flipS f 0) d) := gi_mulL (by rw [flipS_len]; exact hd)
  rw [h, gn_flip_none hd]
theorem pts_none (hm : IsMap t f) : ptsN t f 0 = cntV t := by
  have hq := flipS_vld hm.flip hm.paired 0
  have hl : t.length = (flipS f 0).length := by rw [flipS_len, hm.len]
  rw [ptsN, cntV, ← lows_cycles hm.turn, fixN_sm, lows]
  refine sm_congr _ fun i hi => ch_congr ?_
  have hway : ∀ x y, x < t.length → Lead t (flipS f 0) x y → ∃ k, it t k x = y := fun x y hx h => by
    induction h with
    | refl => exact ⟨0, rfl⟩
    | @one y h ih => obtain ⟨k, rfl⟩ := ih; exact ⟨k + 1, rfl⟩
    | @two y h ih =>
      obtain ⟨k, rfl⟩ := ih
      exact ⟨k, (gn_flip_none (by rw [← hm.len]; exact it_lt hm.turn k hx)).symm⟩
  rw [gi_orbL hi]
  constructor
  · intro e k
    have h1 : Lead t (flipS f 0) i (it t k i) := lead_it i k
    have h2 := h1.sym hm.turn hq hl hi
    have h3 := orb_least h2
    rw [← it_itf]
    omega
  · intro h
    have h1 : Lead t (flipS f 0) (orb t (flipS f 0) i) i := orb_lead
    have hlt : orb t (flipS f 0) i < t.length := Nat.lt_of_le_of_lt orb_le hi
    obtain ⟨k, hk⟩ := hway _ _ hi (h1.sym hm.turn hq hl hlt)
    have h2 := h k
    rw [← it_itf, hk] at h2
    have := orb_le (p := t) (q := flipS f 0) (x := i)
    omega
/-- What FnChoice asks of a map. -/
theorem all_facts (hm : IsMap t f) : ccR t f (allN (f.length / 2)) = (true, [(1 : Int), (cntF t f : Int), (cntV t : Int) - (1 : Nat), (f.length / 2 : Nat) - ((cntV t : Int) - (1 : Nat)), genusOf t f]) ∧ ∃ a2 a3 a4 : Int, ccR t f [] = (true, [(cntV t : Int), (cntV t : Int), a2, a3, a4]) := by
  have h12 := hm.flip.2.1
  obtain ⟨a1, a2, a3, -, a5, a6, a7⟩ := allN_in (f.length / 2) (by omega)
  have hv : chV t f (allN (f.length / 2)) = true := by rw [chV, mapV_iff.2 hm, a5]; rfl
  have hv0 : chV t f [] = true := by rw [chV, mapV_iff.2 hm, a6]; rfl
  refine ⟨?_, ?_⟩
  · rw [ccR, if_pos hv, sOf_eq a1 a3, subL, subI, pts_all hm, sid_all hm, a3, allN_len, genusOf, cntE]
    rfl
  · have e : ccR t f [] = (true, subL t f 0) := by rw [ccR, if_pos hv0, sOf_eq (by decide) a7]
    rw [e, subL, subI, pts_none hm, sid_none hm]
    exact ⟨_, _, _, rfl⟩
end

end Go.Proofs.Ytcenffndclpjoaa

namespace Go.Proofs.Ytcenffndclpjoaa
open Go.RowKit

end Go.Proofs.Ytcenffndclpjoaa
