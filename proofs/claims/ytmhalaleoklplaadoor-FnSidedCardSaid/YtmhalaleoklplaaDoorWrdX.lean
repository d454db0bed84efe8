/-
  Words: corners, numbers, sides, gluings: what the laws ask of the model and of the program.
-/
import Derived.Test.YtmhalaleoklplaaDoorWrdC
import Derived.Test.YtmhalaleoklplaaDoorWrdK
namespace Go.Proofs.YtmhalaleoklplaaDoor
open Go.RowKit

theorem below_undrewN {B k : Nat} {w w' : World} (h : Below B (w.drewN k) w') : Below B w w' := ⟨h.os, h.tape, h.output, h.size, h.block⟩
noncomputable def corR (l : List UInt8) : Int := if wordB l then (corN l : Int) else -1
noncomputable def numN (l : List UInt8) : Int := (corN l : Int) - (l.length / 2 : Nat) + 1
noncomputable def numR (l : List UInt8) : Int := if wordB l then numN l else -100
theorem corR_yes {l : List UInt8} (h : wordB l = true) : corR l = corN l := by rw [corR, if_pos h]
theorem corR_no {l : List UInt8} (h : wordB l = false) : corR l = -1 := by rw [corR, if_neg (by simp [h])]
theorem numR_yes {l : List UInt8} (h : wordB l = true) : numR l = numN l := by rw [numR, if_pos h]
theorem numR_no {l : List UInt8} (h : wordB l = false) : numR l = -100 := by rw [numR, if_neg (by simp [h])]
theorem Word.numN {l : List UInt8} (h : Word l) : -4 ≤ numN l ∧ numN l ≤ 2 := by
  have := h.cor_le; have := h.len; unfold Go.Proofs.YtmhalaleoklplaaDoor.numN; omega

end Go.Proofs.YtmhalaleoklplaaDoor
