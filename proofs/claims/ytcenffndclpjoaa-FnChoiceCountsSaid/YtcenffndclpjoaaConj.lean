/-
  PermConj, the model's and the program's.
-/
import Derived.Test.YtcenffndclpjoaaBack
namespace Go.Proofs.Ytcenffndclpjoaa
open Go.RowKit

theorem backL_into {p : List Int} {n : Nat} (h : Vld p) (hn : p.length = n) : Into (backL p) n := fun j hj => by
  rw [backL_len] at hj
  obtain ⟨i, hi, rfl⟩ := h.surj hj
  rw [h.gi_backL hi]
  exact ⟨Int.natCast_nonneg _, by omega⟩
theorem mulL_into {a b : List Int} {n : Nat} (h : Into a n) (hb : Into b n) (hbn : b.length = n) : Into (mulL a b) n := fun j hj => by
  rw [mulL_len] at hj
  rw [gi_mulL hj]
  obtain ⟨x, _, hx, hg⟩ := h.nat hj
  rw [hg]; exact hb x (by rw [hbn]; exact hx)

end Go.Proofs.Ytcenffndclpjoaa
