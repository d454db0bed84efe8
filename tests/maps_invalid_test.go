package tests

import (
	"math"
	"slices"
	"testing"

	"loop.example/surfacemaps/impl"
)

// notMaps returns lists that are no maps.
func notMaps() []impl.Map {
	out := []impl.Map{
		{},
		{Turn: []int{}, Flip: []int{}},
		// Lists of different lengths.
		{Turn: []int{0, 1}},
		{Flip: []int{1, 0}},
		{Turn: []int{1, 2, 3, 0}, Flip: []int{1, 0}},
		{Turn: []int{0, 1}, Flip: []int{1, 0, 3, 2}},
		{Turn: []int{0, 1, 2}, Flip: []int{1, 0}},
		{Turn: []int{0}, Flip: []int{1, 0}},
		// Lists that are no permutations.
		{Turn: []int{0, 0}, Flip: []int{1, 0}},
		{Turn: []int{0, 2}, Flip: []int{1, 0}},
		{Turn: []int{-1, 0}, Flip: []int{1, 0}},
		{Turn: []int{1, 2}, Flip: []int{2, 1}},
		{Turn: []int{0, 1}, Flip: []int{1, 1}},
		{Turn: []int{0, 1}, Flip: []int{1, 2}},
		{Turn: []int{0, 1}, Flip: []int{-1, 0}},
		{Turn: []int{math.MinInt, 0}, Flip: []int{1, math.MaxInt}},
		{Turn: []int{1, 2, 3, 0}, Flip: []int{1, 0, 1, 0}},
		{Turn: []int{1, 2, 3, 3}, Flip: []int{1, 0, 3, 2}},
		// A Flip that leaves a dart where it is.
		{Turn: []int{0}, Flip: []int{0}},
		{Turn: []int{1, 0}, Flip: []int{0, 1}},
		{Turn: []int{1, 2, 0}, Flip: []int{1, 0, 2}},
		{Turn: []int{1, 2, 3, 0}, Flip: []int{1, 0, 2, 3}},
		{Turn: []int{1, 2, 3, 0}, Flip: []int{0, 1, 2, 3}},
		{Turn: []int{1, 2, 3, 4, 5, 0}, Flip: []int{1, 2, 0, 3, 5, 4}},
		// A Flip that is not its own way back.
		{Turn: []int{1, 2, 0}, Flip: []int{1, 2, 0}},
		{Turn: []int{1, 2, 3, 0}, Flip: []int{1, 2, 3, 0}},
		{Turn: []int{0, 1, 2, 3, 4, 5}, Flip: []int{1, 2, 3, 4, 5, 0}},
		{Turn: []int{1, 2, 3, 4, 5, 0}, Flip: []int{1, 0, 3, 4, 5, 2}},
		// Maps that do not hang together.
		{Turn: []int{0, 1, 2, 3}, Flip: []int{1, 0, 3, 2}},
		{Turn: []int{1, 0, 3, 2}, Flip: []int{1, 0, 3, 2}},
		{Turn: []int{1, 0, 2, 3}, Flip: []int{1, 0, 3, 2}},
		{Turn: []int{2, 1, 0, 3}, Flip: []int{2, 3, 0, 1}},
		{Turn: []int{1, 2, 3, 0, 4, 5}, Flip: []int{1, 0, 3, 2, 5, 4}},
		{Turn: []int{0, 2, 1, 4, 3, 5, 6, 8, 7, 10, 9, 11}, Flip: []int{1, 0, 3, 2, 5, 4, 7, 6, 9, 8, 11, 10}},
		// More darts than PointsMax.
		{Turn: stay(14), Flip: []int{1, 0, 3, 2, 5, 4, 7, 6, 9, 8, 11, 10, 13, 12}},
		{Turn: append(stay(14)[1:], 0), Flip: []int{1, 0, 3, 2, 5, 4, 7, 6, 9, 8, 11, 10, 13, 12}},
		{Turn: stay(1000), Flip: stay(1000)},
	}
	for _, p := range notPerms() {
		out = append(out, impl.Map{Turn: p, Flip: p}, impl.Map{Turn: stay(len(p)), Flip: p}, impl.Map{Turn: p, Flip: []int{1, 0}})
	}
	return out
}

// TestMapValid holds MapValid against the definition: for all pairs of short lists, for all
// pairs of permutations of 4 darts, and for maps in which a number is another one.
func TestMapValid(t *testing.T) {
	check := func(m impl.Map) {
		if got, want := impl.MapValid(m), isMap(m); got != want {
			t.Errorf("MapValid(%v) = %v", m, got)
		}
	}
	lists := [][]int{nil}
	for begin := 0; len(lists[begin]) < 3; begin++ {
		for x := -1; x <= 3; x++ {
			lists = append(lists, append(slices.Clone(lists[begin]), x))
		}
	}
	for _, turn := range lists {
		for _, flip := range lists {
			check(impl.Map{Turn: turn, Flip: flip})
		}
	}
	for _, turn := range allPerms(4) {
		for _, flip := range allPerms(4) {
			check(impl.Map{Turn: turn, Flip: flip})
		}
	}
	for _, k := range knownMaps() {
		for _, list := range [][]int{k.m.Turn, k.m.Flip} {
			for i, was := range list {
				for x := -1; x <= len(list); x++ {
					list[i] = x
					check(k.m)
				}
				list[i] = was
			}
		}
	}
	for _, m := range notMaps() {
		if impl.MapValid(m) || isMap(m) {
			t.Errorf("MapValid holds for %v", m)
		}
	}
}

// TestMapDarts holds MapValid against all turns of 6 darts, of which some leave parts apart.
func TestMapDarts(t *testing.T) {
	many := 0
	for _, turn := range allPerms(6) {
		m := impl.Map{Turn: turn, Flip: []int{1, 0, 3, 2, 5, 4}}
		if got := impl.MapValid(m); got != isMap(m) {
			t.Errorf("MapValid(%v) = %v", m, got)
		}
		if impl.MapValid(m) {
			many++
		}
	}
	// There are 74 rooted maps of three edges. For this Flip, each has 48 ways to name its
	// darts (6 orders of the edges, 8 of their ends), and each map has 6 darts for a root.
	if many != 74*48/6 {
		t.Errorf("%d of the turns make maps", many)
	}
}

// failsMap reports an error unless a call failed with an empty map.
func failsMap(t *testing.T, what string) func(m impl.Map, ok bool) {
	return func(m impl.Map, ok bool) {
		t.Helper()
		if ok || len(m.Turn) != 0 || len(m.Flip) != 0 {
			t.Errorf("%s returned %v, %v", what, m, ok)
		}
	}
}

func TestNoMap(t *testing.T) {
	loop := mapOf(2, "(0,1)", "(0,1)")
	for _, m := range notMaps() {
		fails(t, "MapFaces")(impl.MapFaces(m))
		fails(t, "MapCounts")(impl.MapCounts(m))
		fails(t, "MapDegrees")(impl.MapDegrees(m))
		failsMap(t, "MapDual")(impl.MapDual(m))
		failsMap(t, "MapMirror")(impl.MapMirror(m))
		failsMap(t, "MapLeast")(impl.MapLeast(m))
		for _, by := range [][]int{nil, {0}, {1, 0}, {3, 2, 1, 0}, m.Turn, m.Flip, stay(len(m.Turn)), stay(12)} {
			failsMap(t, "MapRename")(impl.MapRename(m, by))
		}
		for _, d := range []int{-1, 0, 1, 2, 11, math.MaxInt, math.MinInt} {
			failsMap(t, "MapForm")(impl.MapForm(m, d))
			for _, to := range []int{-1, 0, 1, math.MaxInt} {
				if got := impl.MapFar(m, d, to); got != -1 {
					t.Errorf("MapFar(%v, %d, %d) = %d", m, d, to, got)
				}
			}
		}
		if got := impl.MapGenus(m); got != -1 {
			t.Errorf("MapGenus(%v) = %d", m, got)
		}
		if got := impl.MapTurns(m); got != -1 {
			t.Errorf("MapTurns(%v) = %d", m, got)
		}
		if impl.MapSame(m, m) || impl.MapSame(m, loop) || impl.MapSame(loop, m) {
			t.Errorf("MapSame holds with %v", m)
		}
		for _, other := range notMaps() {
			if impl.MapSame(m, other) {
				t.Errorf("MapSame holds for %v and %v", m, other)
			}
		}
	}
}

// TestNoDart asks for darts that are out of range.
func TestNoDart(t *testing.T) {
	for _, k := range knownMaps() {
		n := len(k.m.Turn)
		for _, d := range []int{-1, -2, -n, n, n + 1, 2 * n, 99, math.MaxInt, math.MinInt} {
			failsMap(t, "MapForm of "+k.name)(impl.MapForm(k.m, d))
			for _, other := range []int{0, n - 1, d} {
				if impl.MapFar(k.m, d, other) != -1 || impl.MapFar(k.m, other, d) != -1 {
					t.Errorf("MapFar of %s is not -1 for %d and %d", k.name, d, other)
				}
			}
		}
	}
}

// TestNoRenaming renames maps by lists that are no permutations of as many points.
func TestNoRenaming(t *testing.T) {
	for _, k := range knownMaps() {
		n := len(k.m.Turn)
		for _, by := range notPerms() {
			failsMap(t, "MapRename of "+k.name)(impl.MapRename(k.m, by))
		}
		for points := range impl.PointsMax + 2 {
			if points != n {
				failsMap(t, "MapRename of "+k.name)(impl.MapRename(k.m, stay(points)))
			}
		}
		for i := range n {
			for _, x := range []int{-1, n, (i + 1) % n} {
				by := stay(n)
				by[i] = x
				failsMap(t, "MapRename of "+k.name)(impl.MapRename(k.m, by))
			}
		}
	}
}
