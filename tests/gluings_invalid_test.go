package tests

import (
	"math"
	"slices"
	"testing"

	"loop.example/surfacemaps/impl"
)

// TestGluingValid holds GluingValid against the definition: for all short lists of small
// numbers, for all permutations of 6 sides, and for gluings in which a number is another one.
func TestGluingValid(t *testing.T) {
	check := func(p []int) {
		t.Helper()
		if got, want := impl.GluingValid(p), isGluing(p); got != want {
			t.Errorf("GluingValid(%v) = %v", p, got)
		}
	}
	lists := [][]int{nil}
	for begin := 0; begin < len(lists); begin++ {
		check(lists[begin])
		for x := -1; x <= 5 && len(lists[begin]) < 5; x++ {
			lists = append(lists, append(slices.Clone(lists[begin]), x))
		}
	}
	for _, p := range allPerms(6) {
		check(p)
	}
	for _, p := range sampleGluings() {
		if !impl.GluingValid(p) {
			t.Errorf("GluingValid does not hold for %v", p)
		}
		for i, was := range p {
			for x := -1; x <= len(p); x++ {
				p[i] = x
				check(p)
			}
			p[i] = was
		}
		check(append(slices.Clone(p), len(p)))
		check(p[:len(p)-1])
		check(p[1:])
	}
	for _, p := range notGluings() {
		if impl.GluingValid(p) || isGluing(p) {
			t.Errorf("GluingValid holds for %v", p)
		}
	}
	if impl.SidesMax != 10 {
		t.Errorf("SidesMax is %d", impl.SidesMax)
	}
}

func TestNoGluing(t *testing.T) {
	for _, p := range notGluings() {
		for name, count := range map[string]func(p []int) int{
			"GluingCorners": impl.GluingCorners,
			"GluingGenus":   impl.GluingGenus,
			"GluingChord":   impl.GluingChord,
		} {
			if got := count(p); got != -1 {
				t.Errorf("%s(%v) = %d", name, p, got)
			}
		}
		if impl.GluingPlanar(p) {
			t.Errorf("GluingPlanar holds for %v", p)
		}
		fails(t, "GluingTurn")(impl.GluingTurn(p))
		failsMap(t, "GluingMap")(impl.GluingMap(p))
	}
}

// TestNoOneFace asks for the gluing of what is no map, and of maps with more than one face
// or with more darts than SidesMax.
func TestNoOneFace(t *testing.T) {
	darts := []int{-1, 0, 1, 2, 5, 9, 10, 11, 12, math.MaxInt, math.MinInt}
	for _, m := range notMaps() {
		for _, root := range darts {
			fails(t, "GluingOf no map")(impl.GluingOf(m, root))
		}
	}
	faces, sides := 0, 0
	for _, m := range sampleMaps() {
		_, many := facesOf(m)
		if many == 1 && len(m.Turn) <= 10 {
			continue
		}
		if many > 1 {
			faces++
		} else {
			sides++
		}
		for root := -1; root <= len(m.Turn); root++ {
			fails(t, "GluingOf")(impl.GluingOf(m, root))
		}
	}
	if faces < 100 || sides < 10 {
		t.Errorf("just %d maps here have more than one face and %d too many darts", faces, sides)
	}
	// Six edges with one face: the planar ones and one of the genus 3.
	for _, m := range []impl.Map{
		mapOf(12, "(0,2,4,6,8,10)", edges6),
		mapOf(12, "(1,2)(3,4)(5,6)(7,8)(9,10)", edges6),
		mapOf(12, "(0,1,2,3,4,5,6,7,8,9,10,11)", "(0,6)(1,7)(2,8)(3,9)(4,10)(5,11)"),
	} {
		if _, many := facesOf(m); !impl.MapValid(m) || many != 1 {
			t.Fatalf("%v is no map with one face", m)
		}
		for root := range 12 {
			fails(t, "GluingOf six edges")(impl.GluingOf(m, root))
		}
	}
	fails(t, "GluingOf a loop")(impl.GluingOf(mapOf(2, "(0,1)", "(0,1)"), 0))
}

// TestNoSide asks for roots that are out of range.
func TestNoSide(t *testing.T) {
	for _, p := range sampleGluings() {
		m, n := must[impl.Map](t)(impl.GluingMap(p)), len(p)
		for _, root := range []int{-1, -2, -n, n, n + 1, 2 * n, 99, math.MaxInt, math.MinInt} {
			fails(t, "GluingOf")(impl.GluingOf(m, root))
		}
	}
}

func TestNoGluingCount(t *testing.T) {
	for _, n := range outOf(1, 4) {
		for _, g := range append(belowZero(), 0, 1, 2, 5, 6, 1000, math.MaxInt) {
			isNone(t, "GluingCount", impl.GluingCount(n, g), n, g)
		}
	}
	for _, g := range belowZero() {
		for n := 1; n <= 4; n++ {
			isNone(t, "GluingCount", impl.GluingCount(n, g), n, g)
		}
	}
}

func TestNoGluingRun(t *testing.T) {
	noneOutside(t, "GluingRun", impl.GluingRun, [2]int{0, 9}, [2]int{0, 5})
}

func TestNoGluingColors(t *testing.T) {
	noneOutside(t, "GluingColors", impl.GluingColors, [2]int{1, 7}, [2]int{0, 8})
}

func TestNoGluingAll(t *testing.T) {
	for _, n := range outOf(1, 3) {
		if all, ok := impl.GluingAll(n); ok || len(all) != 0 {
			t.Errorf("GluingAll(%d) = %v, %v", n, all, ok)
		}
	}
}

// TestGluingRanges asks for the least and the greatest numbers of each range.
func TestGluingRanges(t *testing.T) {
	for _, c := range [][3]int{
		{impl.GluingCount(1, 0), 1}, {impl.GluingCount(1, 1), 0}, {impl.GluingCount(4, 0), 14}, {impl.GluingCount(4, 2), 21},
		{impl.GluingCount(1, math.MaxInt), 0}, {impl.GluingCount(4, math.MaxInt), 0},
		{impl.GluingRun(0, 0), 1}, {impl.GluingRun(0, 1), 0}, {impl.GluingRun(0, 5), 0}, {impl.GluingRun(1, 0), 1}, {impl.GluingRun(1, 1), 0},
		{impl.GluingRun(9, 0), 4862}, {impl.GluingRun(9, 4), 12317877}, {impl.GluingRun(9, 5), 0},
		{impl.GluingColors(1, 0), 0}, {impl.GluingColors(1, 1), 1}, {impl.GluingColors(1, 8), 64},
		{impl.GluingColors(7, 0), 0}, {impl.GluingColors(7, 1), 135135}, {impl.GluingColors(7, 8), 10620529920},
	} {
		if c[0] != c[1] {
			t.Errorf("a count at the end of a range is %d instead of %d", c[0], c[1])
		}
	}
	list := must[[][]int](t)
	sameLists(t, "GluingAll", list(impl.GluingAll(1)), [][]int{{1, 0}})
	if all := list(impl.GluingAll(3)); len(all) != 15 {
		t.Errorf("GluingAll(3) has %d gluings", len(all))
	}
}
