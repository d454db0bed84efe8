package tests

import (
	"math"
	"slices"
	"testing"

	"loop.example/surfacemaps/impl"
)

// TestChoiceValid holds ChoiceValid against the definition: for all lists of up to 4 numbers,
// of which some are out of range, with the known maps.
func TestChoiceValid(t *testing.T) {
	for _, k := range knownRibbons() {
		edges := len(k.m.Flip) / 2
		valid := 0
		for n := range 5 {
			for _, list := range stepsOf(n, -1, edges) {
				got := impl.ChoiceValid(k.m, list)
				if got != isChoice(k.m, list) {
					t.Errorf("ChoiceValid of %s is %v for %v", k.name, got, list)
				}
				if got {
					valid++
				}
			}
		}
		want := 0
		for _, choice := range choicesOf(edges) {
			if len(choice) < 5 {
				want++
			}
		}
		if valid != want {
			t.Errorf("%d lists are choices of %s", valid, k.name)
		}
	}
}

// failsChoice reports an error unless all functions of a choice fail.
func failsChoice(t *testing.T, m impl.Map, list []int) {
	t.Helper()
	if impl.ChoiceValid(m, list) || impl.ChoiceTree(m, list) || impl.ChoiceQuasi(m, list) {
		t.Errorf("ChoiceValid, ChoiceTree or ChoiceQuasi holds for %v and %v", m, list)
	}
	fails(t, "ChoiceCounts")(impl.ChoiceCounts(m, list))
	fails(t, "ChoiceRest")(impl.ChoiceRest(m, list))
}

// TestNoChoice asks valid maps with lists that are no choices.
func TestNoChoice(t *testing.T) {
	for _, k := range knownRibbons() {
		edges := len(k.m.Flip) / 2
		for _, list := range notChoices(edges) {
			if isChoice(k.m, list) {
				t.Fatalf("%v is a choice of %s", list, k.name)
			}
			failsChoice(t, k.m, list)
		}
		// Each choice with one number that is another one.
		for _, choice := range choicesOf(edges) {
			for i := range choice {
				for _, e := range []int{-1, edges, 64 + choice[i], math.MaxInt, math.MinInt} {
					list := slices.Clone(choice)
					list[i] = e
					failsChoice(t, k.m, list)
				}
			}
		}
	}
}

// TestNoRibbonMap asks lists that are no maps.
func TestNoRibbonMap(t *testing.T) {
	for _, m := range notMaps() {
		for _, list := range [][]int{nil, {}, {0}, {1}, {0, 1}, {-1}, stay(len(m.Flip) / 2), stay(6), m.Flip} {
			failsChoice(t, m, list)
		}
		for name, got := range map[string]int{
			"RibbonTrees":  impl.RibbonTrees(m),
			"RibbonMatrix": impl.RibbonMatrix(m),
			"RibbonQuasis": impl.RibbonQuasis(m),
		} {
			if got != -1 {
				t.Errorf("%s(%v) = %d", name, m, got)
			}
		}
		for _, x := range []int{-1, 0, 1, 3, 4} {
			if got := impl.RibbonValue(m, x, 1, x); got != -1 {
				t.Errorf("RibbonValue(%v, %d, 1, %d) = %d", m, x, x, got)
			}
		}
		for _, e := range []int{-1, 0, 1, 2, 5, 6, 7, 64, math.MaxInt, math.MinInt} {
			failsEdge(t, m, e)
		}
	}
}

// failsEdge reports an error unless a map has no edge with a number.
func failsEdge(t *testing.T, m impl.Map, e int) {
	t.Helper()
	if got := impl.EdgeKind(m, e); got != -1 {
		t.Errorf("EdgeKind(%v, %d) = %d", m, e, got)
	}
	failsMap(t, "EdgeDelete without an edge")(impl.EdgeDelete(m, e))
	failsMap(t, "EdgeContract without an edge")(impl.EdgeContract(m, e))
}

// TestNoEdge asks valid maps for edges that there are none of.
func TestNoEdge(t *testing.T) {
	for _, m := range ribbonMaps() {
		// The last dart has a number, too, but of no edge.
		for _, e := range append(outOf(0, len(m.Flip)/2-1), len(m.Flip)-1, 64) {
			failsEdge(t, m, e)
		}
	}
}

// TestNoDelete deletes bridges and draws loops together, and asks maps of one edge.
func TestNoDelete(t *testing.T) {
	for _, k := range knownRibbons() {
		for e, kind := range k.kinds {
			last := len(k.kinds) == 1
			if kind == 1 || last {
				failsMap(t, "EdgeDelete of "+k.name)(impl.EdgeDelete(k.m, e))
			} else {
				must[impl.Map](t)(impl.EdgeDelete(k.m, e))
			}
			if kind == 2 || last {
				failsMap(t, "EdgeContract of "+k.name)(impl.EdgeContract(k.m, e))
			} else {
				must[impl.Map](t)(impl.EdgeContract(k.m, e))
			}
		}
	}
}

// TestNoValue asks for values at numbers of which one, two or all are out of range.
func TestNoValue(t *testing.T) {
	check := func(m impl.Map, x, y, z int) {
		t.Helper()
		if got := impl.RibbonValue(m, x, y, z); got != -1 {
			t.Errorf("RibbonValue(%v, %d, %d, %d) = %d", m, x, y, z, got)
		}
	}
	for _, k := range knownRibbons() {
		for _, out := range outOf(0, 3) {
			for _, a := range []int{0, 1, 3, -1, 4, out} {
				for _, b := range []int{0, 2, 3, -1, 4, out} {
					check(k.m, out, a, b)
					check(k.m, a, out, b)
					check(k.m, a, b, out)
				}
			}
		}
	}
}

// TestValueRanges asks for the values at the ends of the ranges.
func TestValueRanges(t *testing.T) {
	loops := knownAs("six loops beside each other")
	star := knownAs("a star of six")
	cross := knownAs("two loops that cross")
	for _, c := range []struct {
		m             impl.Map
		x, y, z, want int
	}{
		{loops, 0, 0, 0, 1}, {loops, 3, 3, 3, 4096}, {loops, 0, 3, 0, 4096}, {loops, 3, 0, 3, 1},
		{star, 0, 0, 0, 1}, {star, 3, 3, 3, 4096}, {star, 3, 0, 0, 4096}, {star, 0, 3, 3, 1},
		{cross, 0, 0, 0, 1}, {cross, 3, 3, 0, 7}, {cross, 0, 3, 3, 34}, {cross, 0, 0, 3, 1}, {cross, 2, 1, 2, 5},
	} {
		if got := impl.RibbonValue(c.m, c.x, c.y, c.z); got != c.want {
			t.Errorf("RibbonValue(%v, %d, %d, %d) = %d instead of %d", c.m, c.x, c.y, c.z, got, c.want)
		}
	}
}
