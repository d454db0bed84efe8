package tests

import (
	"math"
	"slices"
	"testing"

	"loop.example/surfacemaps/impl"
)

// notVoltages returns lists that are no voltages of a map with k sheets.
func notVoltages(m impl.Map, k int) [][][]int {
	edges := len(m.Flip) / 2
	still := stillOf(m, k)
	out := [][][]int{
		// Too few and too many permutations.
		nil, {}, still[1:], append(slices.Clone(still), stay(k)), append(slices.Clone(still), nil),
		slices.Repeat([][]int{stay(k)}, 2*edges+1), slices.Repeat([][]int{stay(k)}, 1000),
	}
	// Lists that are no permutations, or ones of other points: one of them, at each edge, and all of them.
	rows := append(notPerms(), stay(k+1), stay(k-1), stay(2*k), stay(len(m.Turn)), stay(impl.PointsMax))
	for i := range k {
		for _, x := range []int{-1, k, i + 1, i - 1, math.MaxInt, math.MinInt} {
			row := stay(k)
			row[i] = x
			rows = append(rows, row)
		}
	}
	for _, row := range rows {
		if impl.PermValid(row) && len(row) == k {
			continue
		}
		out = append(out, slices.Repeat([][]int{row}, edges))
		for e := range edges {
			volts := slices.Clone(still)
			volts[e] = row
			out = append(out, volts)
		}
	}
	return out
}

// failsLists reports an error unless a call failed with an empty list of lists.
func failsLists(t *testing.T, what string) func(lists [][]int, ok bool) {
	return func(lists [][]int, ok bool) {
		t.Helper()
		if ok || len(lists) != 0 {
			t.Errorf("%s returned %v, %v", what, lists, ok)
		}
	}
}

// failsVoltage reports an error unless all functions of a voltage fail.
func failsVoltage(t *testing.T, c covering) {
	t.Helper()
	if isVoltage(c) {
		t.Fatalf("%v is a voltage", c)
	}
	if impl.VoltageValid(c.m, c.k, c.volts) || impl.CoverWhole(c.m, c.k, c.volts) {
		t.Errorf("VoltageValid or CoverWhole holds for %v", c)
	}
	failsMap(t, "CoverMap")(impl.CoverMap(c.m, c.k, c.volts))
	failsLists(t, "CoverTree")(impl.CoverTree(c.m, c.k, c.volts))
	branch, genus, deck := impl.CoverBranch(c.m, c.k, c.volts), impl.CoverGenus(c.m, c.k, c.volts), impl.CoverDeck(c.m, c.k, c.volts)
	if branch != -1 || genus != -1 || deck != -1 {
		t.Errorf("of %v, CoverBranch is %d, CoverGenus %d and CoverDeck %d", c, branch, genus, deck)
	}
	for _, d := range []int{0, 1, len(c.m.Turn) - 1, -1} {
		fails(t, "CoverWinding")(impl.CoverWinding(c.m, c.k, c.volts, d))
		for _, by := range [][]int{nil, stay(min(max(c.k, 0), 13)), {0}, {1, 0}} {
			failsLists(t, "CoverConj")(impl.CoverConj(c.m, c.k, c.volts, d, by))
			fails(t, "CoverShift")(impl.CoverShift(c.m, c.k, c.volts, by))
		}
	}
}

// TestVoltageValid holds VoltageValid against the definition: for all lists of up to two rows of up
// to two numbers, of which some are out of range, with maps of one and two edges.
func TestVoltageValid(t *testing.T) {
	var rows [][]int
	for n := range 3 {
		rows = append(rows, stepsOf(n, -1, 2)...)
	}
	valid := 0
	for _, m := range []impl.Map{knownAs("a loop"), knownAs("a bridge"), knownAs("two loops that cross"), bridgeFirst(), {}, {Turn: stay(4), Flip: []int{1, 0, 3, 2}}} {
		for n := range 3 {
			for _, volts := range voltsFrom(rows, n) {
				for k := -1; k <= 3; k++ {
					got := impl.VoltageValid(m, k, volts)
					if got != isVoltage(covering{m, k, volts}) {
						t.Errorf("VoltageValid(%v, %d, %v) = %v", m, k, volts, got)
					}
					if got {
						valid++
					}
				}
			}
		}
	}
	// For one sheet each map has one voltage, for two sheets each edge has two permutations.
	if valid != 2*(1+2)+2*(1+4) {
		t.Errorf("%d lists are voltages", valid)
	}
}

// TestNoVoltage asks valid maps with lists that are no voltages.
func TestNoVoltage(t *testing.T) {
	for _, k := range knownCovers() {
		for _, volts := range notVoltages(k.m, k.k) {
			failsVoltage(t, covering{k.m, k.k, volts})
		}
		// A voltage with one number that is another one.
		c := k.covering()
		for _, row := range c.volts {
			for i, was := range row {
				for _, x := range []int{-1, c.k, row[(i+1)%c.k], math.MinInt, math.MaxInt} {
					if row[i] = x; x != was {
						failsVoltage(t, c)
					}
				}
				row[i] = was
			}
		}
	}
}

// TestNoCoverMap asks lists that are no maps, with what would be voltages of them.
func TestNoCoverMap(t *testing.T) {
	for _, m := range notMaps() {
		for k := range 8 {
			for n := range 4 {
				failsVoltage(t, covering{m, k, slices.Repeat([][]int{stay(k)}, n)})
			}
			failsVoltage(t, covering{m, k, stillOf(m, k)})
			failsLists(t, "CoverTrivial")(impl.CoverTrivial(m, k))
		}
	}
}

// TestNoSheets asks for numbers of sheets that are out of range, or of which there would be too many
// darts, also where the product of both is too great for a number.
func TestNoSheets(t *testing.T) {
	for _, m := range append([]impl.Map{sideways(), theta(), twoHandles()}, listedMaps()...) {
		most := min(6, 12/len(m.Turn))
		for k := 1; k <= most; k++ {
			if !impl.VoltageValid(m, k, stillOf(m, k)) {
				t.Errorf("VoltageValid does not hold for %v with %d sheets", m, k)
			}
			must[[][]int](t)(impl.CoverTrivial(m, k))
		}
		out := append(outOf(1, most), within(most+1, 14)...)
		half, quarter := math.MaxInt/2, math.MaxInt/4
		for _, k := range append(out, half, half+1, half+2, half+4, quarter, quarter+1, quarter+2, -half, -half-1) {
			for _, volts := range [][][]int{stillOf(m, 1), stillOf(m, most), stillOf(m, min(max(k, 0), 20)), nil} {
				failsVoltage(t, covering{m, k, volts})
			}
			failsLists(t, "CoverTrivial")(impl.CoverTrivial(m, k))
		}
	}
}

// listedMaps returns the maps of knownMaps.
func listedMaps() []impl.Map {
	var out []impl.Map
	for _, k := range knownMaps() {
		out = append(out, k.m)
	}
	return out
}

// TestSheetsMax asks for just so many sheets and darts as there may be, and for one sheet more.
func TestSheetsMax(t *testing.T) {
	if impl.SheetsMax != 6 || impl.PointsMax != 12 {
		t.Errorf("SheetsMax is %d and PointsMax %d", impl.SheetsMax, impl.PointsMax)
	}
	for _, c := range []struct {
		m    impl.Map
		most int
	}{
		{knownAs("a loop"), 6}, {knownAs("a bridge"), 6}, {knownAs("a ring of two"), 3}, {knownAs("two loops that cross"), 3},
		{knownAs("a triangle"), 2}, {theta(), 2}, {mapOf(8, "(0,1,2,3,4,5,6,7)", edgesOf(8)), 1}, {twoHandles(), 1}, {knownAs("a tetrahedron"), 1},
	} {
		for k := 1; k <= 7; k++ {
			if got := impl.VoltageValid(c.m, k, stillOf(c.m, k)); got != (k <= c.most) {
				t.Errorf("VoltageValid of %v is %v with %d sheets", c.m, got, k)
			}
			if got, ok := impl.CoverTrivial(c.m, k); ok != (k <= c.most) || ok != (len(got) > 0) {
				t.Errorf("CoverTrivial(%v, %d) = %v, %v", c.m, k, got, ok)
			}
		}
	}
}

// TestNoCoverDart asks voltages for darts that are out of range; the darts of the cover are more.
func TestNoCoverDart(t *testing.T) {
	for _, k := range knownCovers() {
		c := k.covering()
		n := len(c.m.Turn)
		for _, d := range append(outOf(0, n-1), n, n*c.k-1, n*c.k, -n) {
			if d >= 0 && d < n {
				continue
			}
			fails(t, "CoverWinding of "+k.name)(impl.CoverWinding(c.m, c.k, c.volts, d))
			for _, by := range [][]int{stay(c.k), nil} {
				failsLists(t, "CoverConj of "+k.name)(impl.CoverConj(c.m, c.k, c.volts, d, by))
			}
		}
	}
}

// TestNoSheetPerm renames and shifts sheets by lists that are no permutations of them.
func TestNoSheetPerm(t *testing.T) {
	for _, k := range knownCovers() {
		c := k.covering()
		lists := append(notPerms(), stay(len(c.m.Turn)*c.k), stay(len(c.m.Turn)), stay(12))
		for n := range 14 {
			lists = append(lists, stay(n))
		}
		for i := range c.k {
			for _, x := range []int{-1, c.k, i + 1, i - 1, math.MaxInt, math.MinInt} {
				by := stay(c.k)
				by[i] = x
				lists = append(lists, by)
			}
		}
		for _, by := range lists {
			if impl.PermValid(by) && len(by) == c.k {
				continue
			}
			fails(t, "CoverShift of "+k.name)(impl.CoverShift(c.m, c.k, c.volts, by))
			for d := range c.m.Turn {
				failsLists(t, "CoverConj of "+k.name)(impl.CoverConj(c.m, c.k, c.volts, d, by))
			}
		}
	}
}

// TestApart asks covers that fall apart, for which just CoverMap, CoverWhole and CoverGenus fail.
func TestApart(t *testing.T) {
	apart := 0
	for _, c := range sampleCovers() {
		if isMap(coverOf(c)) {
			continue
		}
		apart++
		if !impl.VoltageValid(c.m, c.k, c.volts) || impl.CoverWhole(c.m, c.k, c.volts) || impl.CoverGenus(c.m, c.k, c.volts) != -1 {
			t.Errorf("%v is not told as a cover that falls apart", c)
		}
		failsMap(t, "CoverMap")(impl.CoverMap(c.m, c.k, c.volts))
		if impl.CoverBranch(c.m, c.k, c.volts) < 0 || c.k <= 4 && impl.CoverDeck(c.m, c.k, c.volts) < 1 {
			t.Errorf("CoverBranch or CoverDeck fails for %v", c)
		}
		last, by := len(c.m.Turn)-1, stay(c.k)
		must[[]int](t)(impl.CoverWinding(c.m, c.k, c.volts, last))
		must[[]int](t)(impl.CoverShift(c.m, c.k, c.volts, by))
		must[[][]int](t)(impl.CoverTree(c.m, c.k, c.volts))
		must[[][]int](t)(impl.CoverConj(c.m, c.k, c.volts, last, by))
	}
	if apart < 1000 {
		t.Errorf("just %d covers here fall apart", apart)
	}
}
