/-
  A gluing read back from its map, from the side 0 and from the side 1.
-/
import Derived.Test.YtfcgfeopmnjfjaaGlM
import Derived.Test.YtfcgfeopmnjfjaaGluO
import Derived.Test.YtfcgfeopmnjfjaaPar3
import Derived.Test.YtfcgfeopmnjfjaaGlA
namespace Go.Proofs.Ytfcgfeopmnjfjaa

theorem side0 : ∀ n, n < 13 → 1 ≤ n → sideL (folL n) 0 = tab n (fun x => (x : Int)) := by decide +kernel
theorem side1 : ∀ n, n < 13 → 2 ≤ n → sideL (folL n) 1 = backL (folL n) := by decide +kernel
theorem back_fol : ∀ n, n < 13 → 1 ≤ n → backL (backL (folL n)) = folL n ∧ Vld (backL (folL n)) ∧ Vld (tab n (fun x => (x : Int))) := by decide +kernel

theorem conj_same {p : List Int} (hp : Vld p) : conjL p (tab p.length fun x => (x : Int)) = p := by
  have hb := (back_fol p.length (by have := hp.2.1; omega) hp.1).2.2
  refine (conjL_eq hb (by rw [tab_len]) (fun i hi => ?_)).symm
  rw [tab_len] at hi
  have h1 : gn (tab p.length fun x => (x : Int)) i = i := gn_of (gi_tab hi)
  rw [h1, gi_tab (hp.gn_lt hi), hp.gi_gn hi]
theorem isG_of {p : List Int} (h : Vld p) (hp : Paired p) (h2 : 2 ≤ p.length) (h10 : p.length ≤ 10) : IsG p := by
  refine ⟨h2, h10, fun i hi => ?_⟩
  have h1 := hp i hi
  have h3 := h.2.2.1 i hi
  have h4 := h.gi_gn hi
  have h5 : gn p i < p.length := h.gn_lt hi
  have h6 := h.gi_gn h5
  exact ⟨h3.1, h3.2, by rw [h4]; omega, by rw [h6, h1.2]⟩

theorem IsG.isOf0 {p : List Int} (hp : IsG p) (d : Nat) (hd : d < p.length) : isOf (corL p) p (d : Int) = true :=
  isOf_iff.2 ⟨hp.isMap, ⟨by omega, by rw [corL_len]; omega⟩, by rw [corL_len]; exact hp.2.1, gmap_cntF hp⟩
theorem read0 {p : List Int} (hp : IsG p) : gofR (corL p) p ((0 : Nat) : Int) = (true, p) := by
  rw [gofR, if_pos (hp.isOf0 0 (by have := hp.1; omega)), Int.toNat_natCast, gmap_faces hp, side0 _ (by have := hp.2.1; omega) (by have := hp.1; omega), conj_same hp.vld]
/-- .. from the side 1: turned back. -/
def unG (p : List Int) : List Int := conjL p (backL (folL p.length))
theorem unG_len (p : List Int) : (unG p).length = p.length := by rw [unG, conjL_len, backL_len, folL_len]
theorem read1 {p : List Int} (hp : IsG p) : gofR (corL p) p ((1 : Nat) : Int) = (true, unG p) := by
  rw [gofR, if_pos (hp.isOf0 1 (by have := hp.1; omega)), Int.toNat_natCast, gmap_faces hp, side1 _ (by have := hp.2.1; omega) hp.1, unG]
theorem unG_isG {p : List Int} (hp : IsG p) : IsG (unG p) := by
  have hb := (back_fol p.length (by have := hp.2.1; omega) (by have := hp.1; omega)).2.1
  have hm := hp.isMap.ren hb (by rw [backL_len, folL_len, corL_len])
  exact isG_of hm.flip hm.paired (by show 2 ≤ (unG p).length; rw [unG_len]; exact hp.1) (by show (unG p).length ≤ 10; rw [unG_len]; exact hp.2.1)
theorem turn_un {p : List Int} (hp : IsG p) : turnG (unG p) = p := by
  have hb := back_fol p.length (by have := hp.2.1; omega) (by have := hp.1; omega)
  have h := conj_back hp.vld hb.2.1 (by rw [backL_len, folL_len])
  rw [hb.1] at h
  unfold turnG
  rw [unG_len]
  exact h

end Go.Proofs.Ytfcgfeopmnjfjaa
