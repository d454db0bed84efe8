/-
  MapSame: the model's, all cases.
-/
import Derived.Test.YteajaikgeephmaaSameA
import Derived.Test.YteajaikgeephmaaSameM
import Derived.Test.YteajaikgeephmaaSame
namespace Go.Proofs.Yteajaikgeephmaa
open Go.RowKit

set_option maxHeartbeats 3200000 in
theorem spec_sameR (w : World) (A A' : Option Addr) (n n' c c' : Nat) (t f : List Int) (h : Rd w A n t) (h' : Rd w A' n' f) (hn : n ≤ 1048576) (hn' : n' ≤ 1048576) (B B' : Option Addr) (m m' d d' : Nat) (t2 f2 : List Int) (k : Rd w B m t2) (k' : Rd w B' m' f2) (hm : m ≤ 1048576) (hm' : m' ≤ 1048576) {r : Bool} (hR : sameR t f t2 f2 = r) :
    Calls Try.prog 49 #[.agg #[.slice A n c, .slice A' n' c'], .agg #[.slice B m d, .slice B' m' d']] w fun e w' => e = .returned (.bool r) ∧ Below w.heap.size w w' := by
  by_cases hv : mapV t f = true
  · exact spec_sameM w A A' n n' c c' t f h h' hn hn' B B' m m' d d' t2 f2 k k' hm hm' hv hR
  · obtain rfl : false = r := by rw [← hR, sameR_no (fun e => hv e.1)]
    exact spec_sameA w A A' n n' c c' t f h h' hn hn' B B' m m' d d' t2 f2 k k' hm hm' (Bool.eq_false_iff.2 hv)

end Go.Proofs.Yteajaikgeephmaa
