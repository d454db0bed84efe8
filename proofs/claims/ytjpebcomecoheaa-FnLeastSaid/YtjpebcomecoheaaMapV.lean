/-
  MapValid's contracts in the form that the laws ask.
-/
import Derived.Test.YtjpebcomecoheaaSpecMap
namespace Go.Proofs.Ytjpebcomecoheaa
open Go.RowKit

theorem spec_mapV (w : World) (A A' : Option Addr) (n n' c c' : Nat) (t f : List Int) (h : Rd w A n t) (h' : Rd w A' n' f) (hn : n ≤ 1048576) (hn' : n' ≤ 1048576) {r : Bool} (hR : mapV t f = r) :
    Calls Try.prog 81 #[.agg #[.slice A n c, .slice A' n' c']] w fun e w' => e = .returned (.bool r) ∧ Below w.heap.size w w' := by
  subst hR; exact specMap_any A A' n n' c c' t f w h h' (by omega) (by omega)
end Go.Proofs.Ytjpebcomecoheaa
