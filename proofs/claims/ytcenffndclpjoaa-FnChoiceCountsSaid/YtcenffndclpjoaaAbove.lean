/-
  A drawn region that reads and calls what only lays blocks, walked once.
-/
import Derived.Test.YtcenffndclpjoaaKitM
import Derived.Deep.QuietTactic
import Derived.Shelf.RegionOpenPlain
namespace Go.Proofs.Ytcenffndclpjoaa
open Go.RowKit

/-- A world that lies above w: blocks were laid, nothing was written. (Of its own, so that the walk's simp keeps it whole.) -/
structure Above (w : World) where
  to : World
  b : Below w.heap.size w to
instance (w : World) : Inhabited (Above w) := ⟨⟨w, Below.refl _ _⟩⟩
theorem wp_region_quiet_above {P : Program} {id : Nat} {Q : Exit → Act → World → Prop} {a : Act} {w : World} {l : List Oper} (hm : P.follows .mixedOrders = true) (hB : Region.lexB .any l.toArray = true)
    (h : wpQuiet P l.toArray (fun w' => ∃ p : Above w, w' = p.to) (fun a' => ∀ w', (∃ p : Above w, w' = p.to) → Q .normal a' w') l a) : (Code.region id l.toArray true).wp P Q a w :=
  wp_region_quiet (C := fun w' => ∃ p : Above w, w' = p.to) hm hB ⟨⟨_, below_drewN (Below.refl _ w) 1⟩, rfl⟩ (by simpa using h)
theorem Above.calls {P : Program} {f : FuncId} {args : Array Value} {w : World} {p : Above w} {v : Value}
    (h : Calls P f args p.to fun e w' => e = .returned v ∧ Below p.to.heap.size p.to w') : Calls P f args p.to fun e w'' => e = .returned v ∧ ∃ q : Above w, w'' = q.to :=
  h.mono fun _ w'' ⟨he, hq⟩ => ⟨he, ⟨w'', p.b.trans (hq.mono p.b.size)⟩, rfl⟩

end Go.Proofs.Ytcenffndclpjoaa
