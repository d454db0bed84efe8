/-
  MapSame: plain.
-/
import Derived.Test.YtjpebcomecoheaaInv
import Derived.Deep.RegionHeld3
namespace Go.Proofs.Ytjpebcomecoheaa
open Go.RowKit

open Classical in
noncomputable def sameR (t f t' f' : List Int) : Bool := decide (mapV t f = true ∧ mapV t' f' = true ∧ t.length = t'.length ∧ ∃ y, y < t'.length ∧ formIs t' f' (formT t f 0) (formF t f 0) y)
open Classical in
theorem sameR_yes {t f t' f' : List Int} (h1 : mapV t f = true) (h2 : mapV t' f' = true) (h3 : t.length = t'.length) (h4 : ∃ y, y < t'.length ∧ formIs t' f' (formT t f 0) (formF t f 0) y) : sameR t f t' f' = true := decide_eq_true ⟨h1, h2, h3, h4⟩
open Classical in
theorem sameR_no {t f t' f' : List Int} (h : ¬ (mapV t f = true ∧ mapV t' f' = true ∧ t.length = t'.length ∧ ∃ y, y < t'.length ∧ formIs t' f' (formT t f 0) (formF t f 0) y)) : sameR t f t' f' = false := decide_eq_false h

end Go.Proofs.Ytjpebcomecoheaa
