/-
  The draws of the laws on one permutation; the laws' own helpers.
  What the laws share: their own helpers, and the draws of two permutations.
  What the laws on maps share: sums of lists, elements of rows.
-/
import Derived.Test.YtcenffndclpjoaaDrawC
import Derived.Test.YtcenffndclpjoaaSpecPow
import Derived.Test.YtcenffndclpjoaaKitM
import Derived.Deep.RegionHeld3
import Derived.Deep.RegionWith
namespace Go.Proofs.Ytcenffndclpjoaa
open Go.RowKit

theorem open_reads (w : World) (A : Option Addr) (n c : Nat) (bs : List Int) (h : RdB w A n bs) (hn : n ≤ 1048576) (hc : n ≤ c) :
    Calls Try.prog 29 #[.slice A n c] w fun e w' => e = .returned (.pointer (some ⟨w.heap.size, 0, none⟩)) ∧ Reads w' w.heap.size 0 ∧ Below w.heap.size w w' ∧ w.heap.size < w'.heap.size := by
  refine (open_any w A n c hn hc).mono ?_
  rintro e w' ⟨rfl, L, hL, hLn, rfl⟩
  have hb : Below w.heap.size w (w.alloc (.cells #[.slice A L c, .int .i64 0] 75)) := (Below.refl _ _).alloc (Nat.le_refl _) _
  have ht := h.take hLn
  refine ⟨rfl, ⟨A, L, c, bs.take L, heap_alloc_new w _, ⟨ht.1, fun h0 => ?_, ht.2.2⟩, hL, fun ad e h0 => ?_⟩, hb, by simp⟩
  · obtain ⟨ad, e, hc⟩ := ht.2.1 h0
    exact ⟨ad, e, fun j hj => (hb.cell (World.block_lt_of_cell? w _ (hc j hj))).trans (hc j hj)⟩
  · obtain ⟨ad', e', hc⟩ := ht.2.1 h0
    rw [e] at e'
    injection e' with e'
    subst e'
    have := World.block_lt_of_cell? w _ (hc 0 h0)
    rwa [add_block] at this
end Go.Proofs.Ytcenffndclpjoaa

namespace Go.Proofs.Ytcenffndclpjoaa
open Go.RowKit

set_option maxHeartbeats 400000 in
theorem sameInts_any (A A' : Option Addr) (n m c c' : Nat) (xs ys : List Int) (w : World) (h : Rd w A n xs) (h' : Rd w A' m ys) (hn : n ≤ maxLen) (hm : m ≤ maxLen) :
    Calls Try.prog 10 #[.slice A n c, .slice A' m c'] w fun e w' => e = .returned (.bool (eqB xs ys)) ∧ ∃ k, w' = w.drewN k := by
  unfold maxLen at hn hm
  have hxl := h.1
  have hyl := h'.1
  by_cases hnm : n = m
  · subst hnm
    have H := Lib.hid h; have H' := Lib.hid h'; clear h h'
    have Hx := Lib.hid hxl; have Hy := Lib.hid hyl; clear hxl hyl
    have ht : (((n : Nat) : Int) != n) = false := by simp
    go_enter Try.func10, Try.ntmps10
    go_wp2
    go_loopw [5] (fun i wr => ∃ k q : Nat, k ≤ n ∧ i = .int .i64 k ∧ wr = w.drewN q ∧ Hid (∀ j, j < k → gi xs j = gi ys j)) (fun i _ => n - (intOf i).toNat)
    case atStart => exact ⟨0, 0, Nat.zero_le _, rfl, rfl, fun j hj => absurd hj (by omega)⟩
    case round =>
      obtain ⟨k, q, hk, rfl, rfl, hall⟩ := hrel
      by_cases hlt : k < n
      · obtain ⟨ad, rfl, hc⟩ := H.out.at_ hlt
        obtain ⟨ad', rfl, hc'⟩ := H'.out.at_ hlt
        by_cases he : gi xs k = gi ys k
        · have he' : (gi xs k != gi ys k) = false := by simp [he]
          have HE := Lib.hid he; clear he
          go_wp2
          go_quiet (fail)
          go_wp2
          go_roundw
          case rel => exact ⟨k + 1, q + _, by omega, by go_num, rfl, fun j hj => by
            by_cases e : j = k
            · subst e; exact HE.out
            · exact hall.out j (by omega)⟩
          case measure => simp [intOf]; omega
        · have he' : (gi xs k != gi ys k) = true := by simp [he]
          have HE := Lib.hid he; clear he
          go_wp2
          go_quiet (fail)
          go_wp2
          go_ret
          exact ⟨ret_bool (by
            symm
            simp only [eqB, decide_eq_false_iff_not]
            intro e; exact HE.out (by rw [e])), q + _, World.drewN_drewN _ _ _⟩
      · go_wp2
        go_ret
        exact ⟨ret_bool (eqB_true (eq_of_gi (by rw [Hx.out, Hy.out]) (fun j hj => hall.out j (by rw [Hx.out] at hj; omega)))).symm, _, rfl⟩
  · have ht : (((n : Nat) : Int) != m) = true := by simp; omega
    have hne : eqB xs ys = false := by
      simp only [eqB, decide_eq_false_iff_not]
      intro e; apply hnm; rw [← hxl, ← hyl, e]
    have Hx := Lib.hid hne; clear hne hxl hyl h h'
    go_enter Try.func10, Try.ntmps10
    go_wp2
    go_ret
    exact ⟨ret_bool Hx.out.symm, 0, rfl⟩

theorem same_yes (w : World) (A A' : Option Addr) (n m c c' : Nat) (xs ys : List Int) (h : Rd w A n xs) (h' : Rd w A' m ys) (hn : n ≤ 1048576) (hm : m ≤ 1048576) (he : xs = ys) :
    Calls Try.prog 10 #[.slice A n c, .slice A' m c'] w fun e w' => e = .returned (.bool true) ∧ Below w.heap.size w w' := by
  refine (sameInts_any A A' n m c c' xs ys w h h' (by unfold maxLen; omega) (by unfold maxLen; omega)).mono ?_
  rintro e w1 ⟨rfl, k, rfl⟩
  exact ⟨ret_bool (eqB_true he), below_drewN (Below.refl _ _) k⟩
/-- The numbers from 0 on, by so many further, round. -/
def mixL (n k : Nat) : List Int := tab n fun i => (((i + k) % n : Nat) : Int)
theorem mixL_len (n k : Nat) : (mixL n k).length = n := tab_len _ _
theorem mixL_vld {n k : Nat} (h1 : 1 ≤ n) (h12 : n ≤ 12) : Vld (mixL n k) := by
  have hg : ∀ j, j < n → gi (mixL n k) j = (((j + k) % n : Nat) : Int) := fun j hj => gi_tab hj
  refine ⟨by rw [mixL_len]; exact h1, by rw [mixL_len]; exact h12, fun j hj => ?_, fun j hj i hij e => ?_⟩
  · rw [mixL_len] at hj ⊢
    rw [hg j hj]
    have := Nat.mod_lt (j + k) (show 0 < n by omega)
    omega
  · rw [mixL_len] at hj
    rw [hg j hj, hg i (by omega)] at e
    have e' : (i + k) % n = (j + k) % n := by omega
    have h1 := Nat.div_add_mod (i + k) n
    have h2 := Nat.div_add_mod (j + k) n
    have h3 : (i + k) / n ≤ (j + k) / n := Nat.div_le_div_right (by omega)
    by_cases hq : (i + k) / n = (j + k) / n
    · rw [hq] at h1; omega
    · have h4 : n * ((i + k) / n) + n ≤ n * ((j + k) / n) := by
        have : (i + k) / n + 1 ≤ (j + k) / n := by omega
        calc n * ((i + k) / n) + n = n * ((i + k) / n + 1) := by rw [Nat.mul_add, Nat.mul_one]
          _ ≤ n * ((j + k) / n) := Nat.mul_le_mul_left _ this
      omega

theorem validC_any (w : World) (A : Option Addr) (c n : Nat) (xs : List Int) (h : Rd w A n xs) (hn : n ≤ 1048576) :
    Calls Try.prog 86 #[.slice A n c] w fun e w' => e = .returned (.bool (vld xs)) ∧ Below w.heap.size w w' := implValid_any A n c xs w h (by omega)

end Go.Proofs.Ytcenffndclpjoaa

namespace Go.Proofs.Ytcenffndclpjoaa
open Go.RowKit

theorem Rd.get {w : World} {ad : Addr} {n : Nat} {xs : List Int} (h : Rd w (some ad) n xs) {j : Nat} (hj : j < n) : w.cell? (ad.add j) = some (.int .i64 (gi xs j)) := by
  obtain ⟨ad', e, hc⟩ := h.2 (by omega)
  injection e with e
  subst e
  exact hc j hj
theorem Rd.get0 {w : World} {ad : Addr} {n : Nat} {xs : List Int} (h : Rd w (some ad) n xs) (hn : 0 < n) : w.cell? ad = some (.int .i64 (gi xs 0)) := by
  have := h.get hn
  rwa [Addr.add_zero'] at this
theorem Rd.getg {w : World} {g n : Nat} {xs : List Int} (h : Rd w (some ⟨g, 0, none⟩) n xs) {j : Nat} (hj : j < n) : w.cell? ⟨g, j, none⟩ = some (.int .i64 (gi xs j)) := by
  have := h.get hj
  rwa [show (⟨g, 0, none⟩ : Addr).add j = ⟨g, j, none⟩ from by unfold Addr.add; split <;> simp_all] at this
theorem sum_take {xs : List Int} {k : Nat} (hk : k < xs.length) : (xs.take (k + 1)).sum = (xs.take k).sum + gi xs k := by
  rw [List.take_succ_eq_append_getElem hk, List.sum_append, gi_eq hk]; simp
end Go.Proofs.Ytcenffndclpjoaa
