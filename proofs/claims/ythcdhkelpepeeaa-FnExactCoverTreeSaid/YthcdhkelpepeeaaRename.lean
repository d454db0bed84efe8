/-
  MapRename: the model's and the program's.
-/
import Derived.Test.YthcdhkelpepeeaaDual
import Derived.Deep.RegionHeld3
namespace Go.Proofs.Ythcdhkelpepeeaa
open Go.RowKit

noncomputable def renameR (t f b : List Int) : Bool × List Int × List Int := if mapV t f = true ∧ both t b = true then (true, conjL t b, conjL f b) else (false, [], [])
theorem renameR_len {t f b yt yf : List Int} {ok : Bool} (h : renameR t f b = (ok, yt, yf)) : yt.length ≤ 12 ∧ yf.length ≤ 12 := by
  unfold renameR at h
  split at h
  · rename_i hb
    injection h with _ h; injection h with h1 h2
    rw [← h1, ← h2, conjL_len, conjL_len]; exact ⟨(both_iff.1 hb.2).2.1.2.1, (both_iff.1 hb.2).2.1.2.1⟩
  · injection h with _ h; injection h with h1 h2; rw [← h1, ← h2]; simp

theorem box2_far {w w' : World} {b b' : Nat} {A A' : Option Addr} {n c n' c' : Nat} (h : Box2 w b A n c A' n' c') (hg : w.grownBy w' (some b')) (hne : b ≠ b') : Box2 w' b A n c A' n' c' := (hg.block b h.lt (fun e => by injection e with e; exact hne e)).trans h
end Go.Proofs.Ythcdhkelpepeeaa
