/-
  MapSame: the model's.
-/
import Derived.Test.YteajaikgeephmaaSameD
import Derived.Deep.RegionHeld3
namespace Go.Proofs.Yteajaikgeephmaa
open Go.RowKit

set_option maxHeartbeats 16000000 in
theorem spec_sameA (w : World) (A A' : Option Addr) (n n' c c' : Nat) (t f : List Int) (h : Rd w A n t) (h' : Rd w A' n' f) (hn : n ≤ 1048576) (hn' : n' ≤ 1048576) (B B' : Option Addr) (m m' d d' : Nat) (t2 f2 : List Int) (k : Rd w B m t2) (k' : Rd w B' m' f2) (_hm : m ≤ 1048576) (_hm' : m' ≤ 1048576) (hV : mapV t f = false) :
    Calls Try.prog 49 #[.agg #[.slice A n c, .slice A' n' c'], .agg #[.slice B m d, .slice B' m' d']] w fun e w' => e = .returned (.bool false) ∧ Below w.heap.size w w' := by
  obtain ⟨W0, hW0, hx, hy, hbl, hz⟩ := two_boxes w 35 35 (.slice A n c) (.slice A' n' c') (.slice B m d) (.slice B' m' d')
  have c0 := hx.cell0
  have c1 := hx.cell1
  have d0 := hy.cell0
  have d1 := hy.cell1
  have HX := Lib.hid hx; have HY := Lib.hid hy; have HB := Lib.hid hbl; have H := Lib.hid h; have H' := Lib.hid h'; have K := Lib.hid k; have K' := Lib.hid k'; clear hx hy hbl hz h h' k k'
  have HV := Lib.hid hV; clear hV
  go_enter Try.func49, Try.ntmps49
  go_wp2_with fail
  first | (go_region_with (first
    | (go_at_call 23; refine (spec_mapV _ A A' n n' c c' t f ((H.out.below HB.out).drewN _) ((H'.out.below HB.out).drewN _) hn hn' HV.out).mono ?_; rintro e w1 ⟨rfl, bl⟩; have BL1 : Hid (Below W0.heap.size W0 w1) := Below.of_drewN bl; have HBa : Hid (Below w.heap.size w w1) := HB.out.trans (BL1.out.mono HB.out.size); have xa0 := (HX.out.below BL1.out).cell0; have xa1 := (HX.out.below BL1.out).cell1; have ya0 := (HY.out.below BL1.out).cell0; have ya1 := (HY.out.below BL1.out).cell1; clear bl))) | fail
  all_goals
    go_wp2
    go_ret
    exact ⟨rfl, HB.out.trans (BL1.out.mono HB.out.size)⟩

end Go.Proofs.Yteajaikgeephmaa
