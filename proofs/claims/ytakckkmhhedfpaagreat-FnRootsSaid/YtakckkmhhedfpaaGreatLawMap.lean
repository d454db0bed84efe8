/-
  The draws of the laws on one permutation; the laws' own helpers.
  What the laws share: their own helpers, and the draws of two permutations.
  What the laws on maps share: sums of lists, elements of rows.
-/
import Derived.Test.YtakckkmhhedfpaaGreatDrawC
import Derived.Test.YtakckkmhhedfpaaGreatSpecPow
import Derived.Test.YtakckkmhhedfpaaGreatKitM
import Derived.Deep.RegionHeld3
import Derived.Deep.RegionWith
namespace Go.Proofs.YtakckkmhhedfpaaGreat
open Go.RowKit

theorem open_reads (w : World) (A : Option Addr) (n c : Nat) (bs : List Int) (h : RdB w A n bs) (hn : n ≤ 1048576) (hc : n ≤ c) :
    Calls Tryz.prog 16 #[.slice A n c] w fun e w' => e = .returned (.pointer (some ⟨w.heap.size, 0, none⟩)) ∧ Reads w' w.heap.size 0 ∧ Below w.heap.size w w' ∧ w.heap.size < w'.heap.size := by
  refine (open_any w A n c hn hc).mono ?_
  rintro e w' ⟨rfl, L, hL, hLn, rfl⟩
  have hb : Below w.heap.size w (w.alloc (.cells #[.slice A L c, .int .i64 0] 53)) := (Below.refl _ _).alloc (Nat.le_refl _) _
  have ht := h.take hLn
  refine ⟨rfl, ⟨A, L, c, bs.take L, heap_alloc_new w _, ⟨ht.1, fun h0 => ?_, ht.2.2⟩, hL, fun ad e h0 => ?_⟩, hb, by simp⟩
  · obtain ⟨ad, e, hc⟩ := ht.2.1 h0
    exact ⟨ad, e, fun j hj => (hb.cell (World.block_lt_of_cell? w _ (hc j hj))).trans (hc j hj)⟩
  · obtain ⟨ad', e', hc⟩ := ht.2.1 h0
    rw [e] at e'
    injection e' with e'
    subst e'
    have := World.block_lt_of_cell? w _ (hc 0 h0)
    rwa [add_block] at this
end Go.Proofs.YtakckkmhhedfpaaGreat

namespace Go.Proofs.YtakckkmhhedfpaaGreat
open Go.RowKit

/-- The numbers from 0 on, by so many further, round. -/
def mixL (n k : Nat) : List Int := tab n fun i => (((i + k) % n : Nat) : Int)
theorem mixL_len (n k : Nat) : (mixL n k).length = n := tab_len _ _
theorem mixL_vld {n k : Nat} (h1 : 1 ≤ n) (h12 : n ≤ 12) : Vld (mixL n k) := by
  have hg : ∀ j, j < n → gi (mixL n k) j = (((j + k) % n : Nat) : Int) := fun j hj => gi_tab hj
  refine ⟨by rw [mixL_len]; exact h1, by rw [mixL_len]; exact h12, fun j hj => ?_, fun j hj i hij e => ?_⟩
  · rw [mixL_len] at hj ⊢
    rw [hg j hj]
    have := Nat.mod_lt (j + k) (show 0 < n by omega)
    omega
  · rw [mixL_len] at hj
    rw [hg j hj, hg i (by omega)] at e
    have e' : (i + k) % n = (j + k) % n := by omega
    have h1 := Nat.div_add_mod (i + k) n
    have h2 := Nat.div_add_mod (j + k) n
    have h3 : (i + k) / n ≤ (j + k) / n := Nat.div_le_div_right (by omega)
    by_cases hq : (i + k) / n = (j + k) / n
    · rw [hq] at h1; omega
    · have h4 : n * ((i + k) / n) + n ≤ n * ((j + k) / n) := by
        have : (i + k) / n + 1 ≤ (j + k) / n := by omega
        calc n * ((i + k) / n) + n = n * ((i + k) / n + 1) := by rw [Nat.mul_add, Nat.mul_one]
          _ ≤ n * ((j + k) / n) := Nat.mul_le_mul_left _ this
      omega

theorem validC_any (w : World) (A : Option Addr) (c n : Nat) (xs : List Int) (h : Rd w A n xs) (hn : n ≤ 1048576) :
    Calls Tryz.prog 64 #[.slice A n c] w fun e w' => e = .returned (.bool (vld xs)) ∧ Below w.heap.size w w' := implValid_any A n c xs w h (by omega)

end Go.Proofs.YtakckkmhhedfpaaGreat

namespace Go.Proofs.YtakckkmhhedfpaaGreat
open Go.RowKit

theorem Rd.get {w : World} {ad : Addr} {n : Nat} {xs : List Int} (h : Rd w (some ad) n xs) {j : Nat} (hj : j < n) : w.cell? (ad.add j) = some (.int .i64 (gi xs j)) := by
  obtain ⟨ad', e, hc⟩ := h.2 (by omega)
  injection e with e
  subst e
  exact hc j hj
theorem Rd.get0 {w : World} {ad : Addr} {n : Nat} {xs : List Int} (h : Rd w (some ad) n xs) (hn : 0 < n) : w.cell? ad = some (.int .i64 (gi xs 0)) := by
  have := h.get hn
  rwa [Addr.add_zero'] at this
theorem Rd.getg {w : World} {g n : Nat} {xs : List Int} (h : Rd w (some ⟨g, 0, none⟩) n xs) {j : Nat} (hj : j < n) : w.cell? ⟨g, j, none⟩ = some (.int .i64 (gi xs j)) := by
  have := h.get hj
  rwa [show (⟨g, 0, none⟩ : Addr).add j = ⟨g, j, none⟩ from by unfold Addr.add; split <;> simp_all] at this
theorem sum_take {xs : List Int} {k : Nat} (hk : k < xs.length) : (xs.take (k + 1)).sum = (xs.take k).sum + gi xs k := by
  rw [List.take_succ_eq_append_getElem hk, List.sum_append, gi_eq hk]; simp
end Go.Proofs.YtakckkmhhedfpaaGreat
