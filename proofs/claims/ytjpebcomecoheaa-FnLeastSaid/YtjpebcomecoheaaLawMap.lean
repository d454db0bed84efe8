/-
  What the laws on maps share: sums of lists, elements of rows.
-/
import Derived.Test.YtjpebcomecoheaaLawKit
import Derived.Deep.RegionHeld3
import Derived.Deep.RegionWith
namespace Go.Proofs.Ytjpebcomecoheaa
open Go.RowKit

theorem Rd.get {w : World} {ad : Addr} {n : Nat} {xs : List Int} (h : Rd w (some ad) n xs) {j : Nat} (hj : j < n) : w.cell? (ad.add j) = some (.int .i64 (gi xs j)) := by
  obtain ⟨ad', e, hc⟩ := h.2 (by omega)
  injection e with e
  subst e
  exact hc j hj
theorem Rd.get0 {w : World} {ad : Addr} {n : Nat} {xs : List Int} (h : Rd w (some ad) n xs) (hn : 0 < n) : w.cell? ad = some (.int .i64 (gi xs 0)) := by
  have := h.get hn
  rwa [Addr.add_zero'] at this
theorem Rd.getg {w : World} {g n : Nat} {xs : List Int} (h : Rd w (some ⟨g, 0, none⟩) n xs) {j : Nat} (hj : j < n) : w.cell? ⟨g, j, none⟩ = some (.int .i64 (gi xs j)) := by
  have := h.get hj
  rwa [show (⟨g, 0, none⟩ : Addr).add j = ⟨g, j, none⟩ from by unfold Addr.add; split <;> simp_all] at this
theorem sum_take {xs : List Int} {k : Nat} (hk : k < xs.length) : (xs.take (k + 1)).sum = (xs.take k).sum + gi xs k := by
  rw [List.take_succ_eq_append_getElem hk, List.sum_append, gi_eq hk]; simp
theorem sumOf_w (w : World) (A : Option Addr) (n c : Nat) (xs : List Int) (h : Rd w A n xs) (hn : n ≤ 1000) (hb : ∀ j, j < n → 0 ≤ gi xs j ∧ gi xs j ≤ 1000) {r : Int} (hr : xs.sum = r) :
    Calls Try.prog 54 #[.slice A n c] w fun e w' => e = .returned (.int .i64 r) ∧ w = w' := by
  have H := Lib.hid h; have Hx := Lib.hid h.1; have HB := Lib.hid hb; have HR := Lib.hid hr; clear h hb hr
  go_enter Try.func54, Try.ntmps54
  go_wp2
  go_loop [3, 4] (fun sv iv => ∃ (k : Nat) (s : Int), k ≤ n ∧ iv = .int .i64 (k : Int) ∧ sv = .int .i64 s ∧ Hid (s = (xs.take k).sum) ∧ 0 ≤ s ∧ s ≤ 1000 * k) (fun _ iv => n - (intOf iv).toNat)
  case atStart => exact ⟨0, 0, Nat.zero_le _, rfl, rfl, by simp [Hid], by omega, by omega⟩
  case round =>
    obtain ⟨k, s, hk, rfl, rfl, hs, h0, h1⟩ := hrel
    by_cases hlt : k < n
    · obtain ⟨ad, rfl, hc⟩ := H.out.at_ hlt
      obtain ⟨hb0, hb1⟩ := HB.out k hlt
      obtain ⟨v, hv⟩ : ∃ v, gi xs k = v := ⟨_, rfl⟩
      rw [hv] at hc hb0 hb1
      have HS : Hid (s + v = (xs.take (k + 1)).sum) := by rw [Hid, sum_take (by rw [Hx.out]; exact hlt), hs.out, hv]
      clear hv
      go_wp2
      go_round
      case rel => exact ⟨k + 1, s + v, by omega, by go_num, rfl, HS.out, by omega, by omega⟩
      case measure => simp [intOf]; omega
    · have hkn : k = n := by omega
      have HE : Hid (s = r) := by rw [Hid, hs.out, hkn, ← Hx.out, List.take_length]; exact HR.out
      clear hkn
      go_wp2
      go_ret
      exact ⟨ret_int HE.out, rfl⟩
theorem sumB_any (w : World) (A : Option Addr) (n c : Nat) (xs : List Int) (h : Rd w A n xs) (hn : n ≤ 1000) (hb : ∀ j, j < n → 0 ≤ gi xs j ∧ gi xs j ≤ 1000) {r : Int} (hr : xs.sum = r) :
    Calls Try.prog 54 #[.slice A n c] w fun e w' => e = .returned (.int .i64 r) ∧ Below w.heap.size w w' :=
  (sumOf_w w A n c xs h hn hb hr).mono fun _ _ ⟨h1, h2⟩ => ⟨h1, h2 ▸ Below.refl _ _⟩

theorem same_map_b (w : World) (A A' B B' : Option Addr) (n n' c c' m m' d d' : Nat) (t f t' f' : List Int) (h : Rd w A n t) (h' : Rd w A' n' f) (k : Rd w B m t') (k' : Rd w B' m' f') (hn : n ≤ 1048576) (hn' : n' ≤ 1048576) (hm : m ≤ 1048576) (hm' : m' ≤ 1048576) {r : Bool} (hr : (eqB t t' && eqB f f') = r) :
    Calls Try.prog 35 #[.agg #[.slice A n c, .slice A' n' c'], .agg #[.slice B m d, .slice B' m' d']] w fun e w' => e = .returned (.bool r) ∧ Below w.heap.size w w' := by
  have H := Lib.hid h; have H' := Lib.hid h'; have K := Lib.hid k; have K' := Lib.hid k'; clear h h' k k'
  obtain ⟨W0, hW0⟩ : ∃ W0, (w.alloc (.cells #[.slice A n c, .slice A' n' c'] 38)).alloc (.cells #[.slice B m d, .slice B' m' d'] 38) = W0 := ⟨_, rfl⟩
  have hx0 : Box W0 w.heap.size 38 (.slice A n c) (.slice A' n' c') := by
    rw [← hW0]; exact (Box.new w _ _ _).below ((Below.refl _ _).alloc (Nat.le_refl _) _)
  have hx1 : Box W0 (w.heap.size + 1) 38 (.slice B m d) (.slice B' m' d') := by
    rw [← hW0]
    have := Box.new (w.alloc (.cells #[.slice A n c, .slice A' n' c'] 38)) 38 (.slice B m d) (.slice B' m' d')
    rwa [World.size_alloc] at this
  have HB0 : Hid (Below w.heap.size w W0) := by rw [← hW0]; exact ((Below.refl _ _).alloc (Nat.le_refl _) _).alloc (by simp) _
  have c0 := hx0.cell0
  have c1 := hx0.cell1
  have c2 := hx1.cell0
  have c3 := hx1.cell1
  have HR := Lib.hid hr
  clear hx0 hx1 hr
  by_cases ht : t = t'
  · have HT := Lib.hid ht
    have HR' : Hid (eqB f f' = r) := by have := HR.out; rwa [eqB_true ht, Bool.true_and] at this
    clear ht
    go_enter Try.func35, Try.ntmps35
    go_wp2_with fail
    refine (sameInts_any A B n m c d t t' W0 (H.out.below HB0.out) (K.out.below HB0.out) (by unfold maxLen; omega) (by unfold maxLen; omega)).mono ?_
    rintro e w1 ⟨rfl, q, rfl⟩
    rw [eqB_true HT.out]
    go_wp2_with fail
    refine (sameInts_any A' B' n' m' c' d' f f' (W0.drewN q) ((H'.out.below HB0.out).drewN q) ((K'.out.below HB0.out).drewN q) (by unfold maxLen; omega) (by unfold maxLen; omega)).mono ?_
    rintro e w1 ⟨rfl, q', rfl⟩
    rw [HR'.out]
    go_wp2_with fail
    go_ret
    exact ⟨rfl, below_drewN HB0.out _⟩
  · have hf : eqB t t' = false := by simp only [eqB, decide_eq_false_iff_not]; exact ht
    have HF := Lib.hid hf
    have HR' : Hid (false = r) := by have := HR.out; rwa [hf, Bool.false_and] at this
    clear ht hf
    go_enter Try.func35, Try.ntmps35
    go_wp2_with fail
    refine (sameInts_any A B n m c d t t' W0 (H.out.below HB0.out) (K.out.below HB0.out) (by unfold maxLen; omega) (by unfold maxLen; omega)).mono ?_
    rintro e w1 ⟨rfl, q, rfl⟩
    rw [HF.out]
    go_wp2_with fail
    go_ret
    exact ⟨ret_bool HR'.out, below_drewN HB0.out _⟩

end Go.Proofs.Ytjpebcomecoheaa
