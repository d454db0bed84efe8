/-
  The draws of the laws on one permutation; the laws' own helpers.
  What the laws share: their own helpers, and the draws of two permutations.
  What the laws on maps share: sums of lists, elements of rows.
-/
import Derived.Test.YthcdhkelpepeeaaDraw
import Derived.Test.YthcdhkelpepeeaaSpecPow
import Derived.Test.YthcdhkelpepeeaaKitM
import Derived.Deep.RegionHeld3
import Derived.Deep.RegionWith
namespace Go.Proofs.Ythcdhkelpepeeaa
open Go.RowKit

end Go.Proofs.Ythcdhkelpepeeaa

namespace Go.Proofs.Ythcdhkelpepeeaa
open Go.RowKit

/-- The numbers from 0 on, by so many further, round. -/
def mixL (n k : Nat) : List Int := tab n fun i => (((i + k) % n : Nat) : Int)
theorem mixL_len (n k : Nat) : (mixL n k).length = n := tab_len _ _
theorem mixL_vld {n k : Nat} (h1 : 1 ≤ n) (h12 : n ≤ 12) : Vld (mixL n k) := by
  have hg : ∀ j, j < n → gi (mixL n k) j = (((j + k) % n : Nat) : Int) := fun j hj => gi_tab hj
  refine ⟨by rw [mixL_len]; exact h1, by rw [mixL_len]; exact h12, fun j hj => ?_, fun j hj i hij e => ?_⟩
  · rw [mixL_len] at hj ⊢
    rw [hg j hj]
    have := Nat.mod_lt (j + k) (show 0 < n by omega)
    omega
  · rw [mixL_len] at hj
    rw [hg j hj, hg i (by omega)] at e
    have e' : (i + k) % n = (j + k) % n := by omega
    have h1 := Nat.div_add_mod (i + k) n
    have h2 := Nat.div_add_mod (j + k) n
    have h3 : (i + k) / n ≤ (j + k) / n := Nat.div_le_div_right (by omega)
    by_cases hq : (i + k) / n = (j + k) / n
    · rw [hq] at h1; omega
    · have h4 : n * ((i + k) / n) + n ≤ n * ((j + k) / n) := by
        have : (i + k) / n + 1 ≤ (j + k) / n := by omega
        calc n * ((i + k) / n) + n = n * ((i + k) / n + 1) := by rw [Nat.mul_add, Nat.mul_one]
          _ ≤ n * ((j + k) / n) := Nat.mul_le_mul_left _ this
      omega

theorem validC_any (w : World) (A : Option Addr) (c n : Nat) (xs : List Int) (h : Rd w A n xs) (hn : n ≤ 1048576) :
    Calls Try.prog 100 #[.slice A n c] w fun e w' => e = .returned (.bool (vld xs)) ∧ Below w.heap.size w w' := implValid_any A n c xs w h (by omega)

end Go.Proofs.Ythcdhkelpepeeaa

namespace Go.Proofs.Ythcdhkelpepeeaa
open Go.RowKit

theorem Rd.get {w : World} {ad : Addr} {n : Nat} {xs : List Int} (h : Rd w (some ad) n xs) {j : Nat} (hj : j < n) : w.cell? (ad.add j) = some (.int .i64 (gi xs j)) := by
  obtain ⟨ad', e, hc⟩ := h.2 (by omega)
  injection e with e
  subst e
  exact hc j hj
theorem Rd.get0 {w : World} {ad : Addr} {n : Nat} {xs : List Int} (h : Rd w (some ad) n xs) (hn : 0 < n) : w.cell? ad = some (.int .i64 (gi xs 0)) := by
  have := h.get hn
  rwa [Addr.add_zero'] at this
theorem Rd.getg {w : World} {g n : Nat} {xs : List Int} (h : Rd w (some ⟨g, 0, none⟩) n xs) {j : Nat} (hj : j < n) : w.cell? ⟨g, j, none⟩ = some (.int .i64 (gi xs j)) := by
  have := h.get hj
  rwa [show (⟨g, 0, none⟩ : Addr).add j = ⟨g, j, none⟩ from by unfold Addr.add; split <;> simp_all] at this
theorem sum_take {xs : List Int} {k : Nat} (hk : k < xs.length) : (xs.take (k + 1)).sum = (xs.take k).sum + gi xs k := by
  rw [List.take_succ_eq_append_getElem hk, List.sum_append, gi_eq hk]; simp
end Go.Proofs.Ythcdhkelpepeeaa
