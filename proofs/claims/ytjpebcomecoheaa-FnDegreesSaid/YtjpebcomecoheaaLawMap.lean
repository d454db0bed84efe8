/-
  What the laws on maps share: sums of lists, elements of rows.
-/
import Derived.Test.YtjpebcomecoheaaLawKit
import Derived.Deep.RegionHeld3
import Derived.Deep.RegionWith
namespace Go.Proofs.Ytjpebcomecoheaa
open Go.RowKit

theorem Rd.get {w : World} {ad : Addr} {n : Nat} {xs : List Int} (h : Rd w (some ad) n xs) {j : Nat} (hj : j < n) : w.cell? (ad.add j) = some (.int .i64 (gi xs j)) := by
  obtain ⟨ad', e, hc⟩ := h.2 (by omega)
  injection e with e
  subst e
  exact hc j hj
theorem Rd.get0 {w : World} {ad : Addr} {n : Nat} {xs : List Int} (h : Rd w (some ad) n xs) (hn : 0 < n) : w.cell? ad = some (.int .i64 (gi xs 0)) := by
  have := h.get hn
  rwa [Addr.add_zero'] at this
theorem Rd.getg {w : World} {g n : Nat} {xs : List Int} (h : Rd w (some ⟨g, 0, none⟩) n xs) {j : Nat} (hj : j < n) : w.cell? ⟨g, j, none⟩ = some (.int .i64 (gi xs j)) := by
  have := h.get hj
  rwa [show (⟨g, 0, none⟩ : Addr).add j = ⟨g, j, none⟩ from by unfold Addr.add; split <;> simp_all] at this
theorem sum_take {xs : List Int} {k : Nat} (hk : k < xs.length) : (xs.take (k + 1)).sum = (xs.take k).sum + gi xs k := by
  rw [List.take_succ_eq_append_getElem hk, List.sum_append, gi_eq hk]; simp
theorem sumOf_w (w : World) (A : Option Addr) (n c : Nat) (xs : List Int) (h : Rd w A n xs) (hn : n ≤ 1000) (hb : ∀ j, j < n → 0 ≤ gi xs j ∧ gi xs j ≤ 1000) {r : Int} (hr : xs.sum = r) :
    Calls Try.prog 54 #[.slice A n c] w fun e w' => e = .returned (.int .i64 r) ∧ w = w' := by
  have H := Lib.hid h; have Hx := Lib.hid h.1; have HB := Lib.hid hb; have HR := Lib.hid hr; clear h hb hr
  go_enter Try.func54, Try.ntmps54
  go_wp2
  go_loop [3, 4] (fun sv iv => ∃ (k : Nat) (s : Int), k ≤ n ∧ iv = .int .i64 (k : Int) ∧ sv = .int .i64 s ∧ Hid (s = (xs.take k).sum) ∧ 0 ≤ s ∧ s ≤ 1000 * k) (fun _ iv => n - (intOf iv).toNat)
  case atStart => exact ⟨0, 0, Nat.zero_le _, rfl, rfl, by simp [Hid], by omega, by omega⟩
  case round =>
    obtain ⟨k, s, hk, rfl, rfl, hs, h0, h1⟩ := hrel
    by_cases hlt : k < n
    · obtain ⟨ad, rfl, hc⟩ := H.out.at_ hlt
      obtain ⟨hb0, hb1⟩ := HB.out k hlt
      obtain ⟨v, hv⟩ : ∃ v, gi xs k = v := ⟨_, rfl⟩
      rw [hv] at hc hb0 hb1
      have HS : Hid (s + v = (xs.take (k + 1)).sum) := by rw [Hid, sum_take (by rw [Hx.out]; exact hlt), hs.out, hv]
      clear hv
      go_wp2
      go_round
      case rel => exact ⟨k + 1, s + v, by omega, by go_num, rfl, HS.out, by omega, by omega⟩
      case measure => simp [intOf]; omega
    · have hkn : k = n := by omega
      have HE : Hid (s = r) := by rw [Hid, hs.out, hkn, ← Hx.out, List.take_length]; exact HR.out
      clear hkn
      go_wp2
      go_ret
      exact ⟨ret_int HE.out, rfl⟩
theorem sumB_any (w : World) (A : Option Addr) (n c : Nat) (xs : List Int) (h : Rd w A n xs) (hn : n ≤ 1000) (hb : ∀ j, j < n → 0 ≤ gi xs j ∧ gi xs j ≤ 1000) {r : Int} (hr : xs.sum = r) :
    Calls Try.prog 54 #[.slice A n c] w fun e w' => e = .returned (.int .i64 r) ∧ Below w.heap.size w w' :=
  (sumOf_w w A n c xs h hn hb hr).mono fun _ _ ⟨h1, h2⟩ => ⟨h1, h2 ▸ Below.refl _ _⟩

end Go.Proofs.Ytjpebcomecoheaa
