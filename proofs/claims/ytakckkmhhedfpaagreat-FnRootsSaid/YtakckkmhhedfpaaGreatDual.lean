/-
  MapDual: the model's and the program's.
-/
import Derived.Test.YtakckkmhhedfpaaGreatCopy
import Derived.Deep.RegionWith
namespace Go.Proofs.YtakckkmhhedfpaaGreat
open Go.RowKit

noncomputable def dualR (t f : List Int) : Bool × List Int × List Int := if mapV t f = true then (true, mulL f t, f) else (false, [], [])
theorem dualR_len {t f yt yf : List Int} {ok : Bool} (h : dualR t f = (ok, yt, yf)) : yt.length ≤ 12 ∧ yf.length ≤ 12 := by
  unfold dualR at h
  split at h
  · rename_i hb
    injection h with _ h; injection h with h1 h2
    rw [← h1, ← h2, mulL_len]; exact ⟨(mapV_iff.1 hb).flip.2.1, (mapV_iff.1 hb).flip.2.1⟩
  · injection h with _ h; injection h with h1 h2; rw [← h1, ← h2]; simp
/-- A box that takes two rows of a call's own: the map that it then holds is owned, and all that was is as it was. -/
theorem pair_done {w W W' : World} {lo b : Nat} {u u' : Value} {t f : List Int} (ho : Own W lo u t) (ho' : Own W lo u' f) (ha : ∀ k, u.ownBlock = some k → u'.ownBlock ≠ some k) (hb : Below w.heap.size w W) (hg : W.grownBy W' (some b))
    (hlo : w.heap.size ≤ b) (hbw : b < lo) : OwnM W' w.heap.size u u' t f ∧ Below w.heap.size w W' := by
  have hs := hb.size
  refine ⟨⟨(ho.grown hg ?_).mono (by omega), (ho'.grown hg ?_).mono (by omega), ha⟩, hb.grown hg hs (fun k hk => by cases hk; exact hlo)⟩
  · cases hk : u.ownBlock with
    | none => exact .inl rfl
    | some k => exact .inr (fun e => by injection e with e; have := (ho.lt k hk).1; omega)
  · cases hk : u'.ownBlock with
    | none => exact .inl rfl
    | some k => exact .inr (fun e => by injection e with e; have := (ho'.lt k hk).1; omega)

end Go.Proofs.YtakckkmhhedfpaaGreat
