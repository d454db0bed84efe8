/-
  MapCounts and MapGenus: the model's and the program's.
-/
import Derived.Test.YtpaohaodnchfkaaCopy
import Derived.Test.YtpaohaodnchfkaaSign
import Derived.Deep.RegionHeld3
import Derived.IntWalk
namespace Go.Proofs.Ytpaohaodnchfkaa
open Go.RowKit

/-- Vertices, edges, faces. -/
def cntV (t : List Int) : Nat := (cyclesL t).length
def cntE (f : List Int) : Nat := f.length / 2
def cntF (t f : List Int) : Nat := (cyclesL (mulL f t)).length

theorem OwnSS.form_len {w : World} {lo hi : Nat} {v : Value} {xss : List (List Int)} (h : OwnSS w lo hi v xss) {m : Nat} (hm : xss.length = m) : ∃ A c, v = .slice A m c := by
  subst hm
  obtain ⟨vs, _, ho, _⟩ := h
  rcases ho.2 with ⟨rfl, hn⟩ | ⟨g, cap, cur, hv, _⟩
  · exact ⟨none, 0, by rw [hn]⟩
  · exact ⟨_, _, hv⟩

noncomputable def countsR (t f : List Int) : Bool × List Int := if mapV t f = true then (true, [(cntV t : Int), (cntE f : Int), (cntF t f : Int)]) else (false, [])
theorem countsR_len {t f ys : List Int} {ok : Bool} (h : countsR t f = (ok, ys)) : ys.length ≤ 12 := by
  unfold countsR at h
  split at h <;> (injection h with _ h; rw [← h]; simp)

end Go.Proofs.Ytpaohaodnchfkaa
