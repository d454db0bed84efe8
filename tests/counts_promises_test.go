package tests

import (
	"slices"
	"testing"

	"loop.example/surfacemaps/impl"
)

// TestForms holds the maps that the tests make themselves against the numbers that are known.
func TestForms(t *testing.T) {
	for e := 1; e <= 5; e++ {
		for g := range 4 {
			if got, want := len(allRooted(e, g)), atOrZero(rootedRows()[e], g); got != want {
				t.Fatalf("the tests make %d rooted maps with %d edges and the genus %d instead of %d", got, e, g, want)
			}
		}
	}
	for e := 1; e <= 3; e++ {
		for g := range 2 {
			for _, m := range allRooted(e, g) {
				form, ok := impl.MapForm(m, 0)
				if !ok {
					t.Fatalf("%v is no map", m)
				}
				sameMap(t, "MapForm of a form", form, m)
			}
		}
	}
}

// Promise 24: rooted maps counted one by one.
func TestPromise24Count(t *testing.T) {
	for e := 1; e <= 3; e++ {
		for _, g := range []int{0, 1, 2, 3, 4, 5, 6, 7, 1000, 1 << 40} {
			got := impl.RootedCount(e, g)
			if want := atOrZero(rootedRows()[e], g); got != want || 2*g > e && got != 0 {
				t.Errorf("RootedCount(%d, %d) = %d instead of %d", e, g, got, want)
			}
			if run := impl.RootedRun(e, g); run != -1 && run != got {
				t.Errorf("RootedCount(%d, %d) = %d, but RootedRun is %d", e, g, got, run)
			}
		}
	}
}

// Promise 25: lists of rooted maps.
func TestPromise25List(t *testing.T) {
	list := must[[]impl.Map](t)
	one := must[impl.Map](t)
	for e := 1; e <= 2; e++ {
		for g := range 4 {
			maps := list(impl.RootedList(e, g))
			if len(maps) != impl.RootedCount(e, g) {
				t.Errorf("RootedList(%d, %d) has %d maps", e, g, len(maps))
			}
			has := func(m impl.Map) bool {
				return slices.ContainsFunc(maps, func(other impl.Map) bool { return compareMaps(m, other) == 0 })
			}
			for i, m := range maps {
				if !isMap(m) || len(m.Turn) != 2*e || genusOf(m) != g {
					t.Fatalf("RootedList(%d, %d) has %v", e, g, m)
				}
				if i > 0 && compareMaps(maps[i-1], m) >= 0 {
					t.Errorf("RootedList(%d, %d) has %v ahead of %v", e, g, maps[i-1], m)
				}
				sameMap(t, "its own form", one(impl.MapForm(m, 0)), m)
				dual := one(impl.MapDual(m))
				for d := range m.Turn {
					if !has(one(impl.MapForm(m, d))) || !has(one(impl.MapForm(dual, d))) {
						t.Errorf("RootedList(%d, %d) lacks a form of %v or of its dual", e, g, m)
					}
				}
			}
		}
	}
}

// TestRootedLists holds whole lists against those of the tests, and one against what was worked out by hand.
func TestRootedLists(t *testing.T) {
	list := must[[]impl.Map](t)
	check := func(e, g int, want []impl.Map) {
		t.Helper()
		got := list(impl.RootedList(e, g))
		if !slices.EqualFunc(got, want, func(a, b impl.Map) bool { return compareMaps(a, b) == 0 }) {
			t.Errorf("RootedList(%d, %d) = %v instead of %v", e, g, got, want)
		}
	}
	for e := 1; e <= 2; e++ {
		for g := range 3 {
			check(e, g, allRooted(e, g))
		}
	}
	check(1, 0, []impl.Map{mapOf(2, "()", "(0,1)"), mapOf(2, "(0,1)", "(0,1)")})
	check(2, 1, []impl.Map{mapOf(4, "(0,1,2,3)", "(0,2)(1,3)")})
	check(2, 0, []impl.Map{
		mapOf(4, "(1,2)", "(0,1)(2,3)"),
		mapOf(4, "(1,2,3)", "(0,1)(2,3)"),
		mapOf(4, "(0,1)", "(0,2)(1,3)"),
		mapOf(4, "(0,1)(2,3)", "(0,2)(1,3)"),
		mapOf(4, "(0,1,2)", "(0,1)(2,3)"),
		mapOf(4, "(0,1,2)", "(0,2)(1,3)"),
		mapOf(4, "(0,1,2,3)", "(0,1)(2,3)"),
		mapOf(4, "(0,1,3,2)", "(0,2)(1,3)"),
		mapOf(4, "(0,1,3)", "(0,2)(1,3)"),
	})
	for e := 1; e <= 2; e++ {
		for _, g := range []int{2, 5, 6, 1000, 1 << 40} {
			check(e, g, nil)
		}
	}
}

// Promise 26: the recursion.
func TestPromise26Run(t *testing.T) {
	for e := range 10 {
		for g := range 6 {
			got := impl.RootedRun(e, g)
			if want := atOrZero(rootedRows()[e], g); got != want {
				t.Errorf("RootedRun(%d, %d) = %d instead of %d", e, g, got, want)
			}
			if (got > 0) != (2*g <= e) || got < 0 {
				t.Errorf("RootedRun(%d, %d) = %d", e, g, got)
			}
		}
		if run, plane := impl.RootedRun(e, 0), impl.RootedPlane(e); run != plane {
			t.Errorf("RootedRun(%d, 0) = %d, but RootedPlane is %d", e, run, plane)
		}
	}
}

// TestRunTotals holds the recursion, all genera together, against a known other one: there are as many
// rooted maps with n - 1 edges as ways to pair 2 n things in a row so that no first 2 k of them are paired among themselves.
func TestRunTotals(t *testing.T) {
	pairings := []int{1}
	for n := 1; n <= 10; n++ {
		pairings = append(pairings, pairings[n-1]*(2*n-1))
	}
	whole := []int{0}
	for n := 1; n <= 10; n++ {
		many := pairings[n]
		for k := 1; k < n; k++ {
			many -= pairings[k] * whole[n-k]
		}
		whole = append(whole, many)
		sum := 0
		for g := range 6 {
			sum += impl.RootedRun(n-1, g)
		}
		if sum != many {
			t.Errorf("there are %d rooted maps with %d edges by RootedRun instead of %d", sum, n-1, many)
		}
	}
}

// Promise 27: the formula for the genus 0.
func TestPromise27Plane(t *testing.T) {
	for e := range 10 {
		got := impl.RootedPlane(e)
		if want := rootedRows()[e][0]; got != want {
			t.Errorf("RootedPlane(%d) = %d instead of %d", e, got, want)
		}
		sum := 0
		for p := range 19 {
			sum += impl.RootedFace(e, p)
		}
		if sum != got {
			t.Errorf("RootedPlane(%d) = %d, but RootedFace of all degrees is %d", e, got, sum)
		}
		if next := impl.RootedPlane(e + 1); next != -1 && got*6*(2*e+1) != next*(e+3) {
			t.Errorf("RootedPlane of %d and one more are %d and %d", e, got, next)
		}
	}
}

// Promise 28: degrees of the root face.
func TestPromise28Face(t *testing.T) {
	for e := range 10 {
		for p := range 19 {
			got := impl.RootedFace(e, p)
			if got < 0 || p > 2*e && got != 0 {
				t.Errorf("RootedFace(%d, %d) = %d", e, p, got)
			}
			if p == 2*e && got != impl.RootedTrees(e) {
				t.Errorf("RootedFace(%d, %d) = %d, but RootedTrees is %d", e, p, got, impl.RootedTrees(e))
			}
			if p == 1 && e > 0 && got != impl.RootedPlane(e-1) {
				t.Errorf("RootedFace(%d, %d) = %d is not RootedPlane with a loop less", e, p, got)
			}
		}
	}
}

// TestFaces holds the degrees of root faces against the maps that the tests make.
func TestFaces(t *testing.T) {
	for e := 1; e <= 5; e++ {
		many := make([]int, 19)
		for _, m := range allRooted(e, 0) {
			face, _ := facesOf(m)
			degree := 0
			for _, f := range face {
				if f == face[0] {
					degree++
				}
			}
			many[degree]++
		}
		for p, want := range many {
			if got := impl.RootedFace(e, p); got != want {
				t.Errorf("RootedFace(%d, %d) = %d instead of %d", e, p, got, want)
			}
		}
	}
	if impl.RootedFace(0, 0) != 1 || impl.RootedFace(0, 1) != 0 || impl.RootedFace(0, 18) != 0 || impl.RootedFace(1, 0) != 0 || impl.RootedFace(9, 0) != 0 {
		t.Error("RootedFace is wrong without edges or without darts")
	}
}

// Promise 29: plane maps with one face.
func TestPromise29Trees(t *testing.T) {
	known := []int{1, 1, 2, 5, 14, 42, 132, 429, 1430, 4862, 16796, 58786, 208012}
	for e, want := range known {
		got := impl.RootedTrees(e)
		if got != want {
			t.Errorf("RootedTrees(%d) = %d instead of %d", e, got, want)
		}
		sum := 0
		for k := range e {
			sum += impl.RootedTrees(k) * impl.RootedTrees(e-1-k)
		}
		if e > 0 && sum != got {
			t.Errorf("RootedTrees(%d) = %d, but the products are %d", e, got, sum)
		}
	}
}

// Promise 30: maps without roots.
func TestPromise30Rootless(t *testing.T) {
	known := [][]int{{}, {2}, {4, 1}, {14, 6}}
	for e := 1; e <= 3; e++ {
		for _, g := range []int{0, 1, 2, 3, 6, 1000, 1 << 40} {
			got, rooted := impl.RootlessCount(e, g), impl.RootedCount(e, g)
			if want := atOrZero(known[e], g); got != want {
				t.Errorf("RootlessCount(%d, %d) = %d instead of %d", e, g, got, want)
			}
			if got > rooted || got*2*e < rooted || (got == 0) != (rooted == 0) {
				t.Errorf("RootlessCount(%d, %d) = %d with %d rooted maps", e, g, got, rooted)
			}
		}
		for g := range 3 {
			if got, want := impl.RootlessCount(e, g), len(allRootless(e, g)); got != want {
				t.Errorf("RootlessCount(%d, %d) = %d, but the tests make %d", e, g, got, want)
			}
		}
	}
}

// Promise 31: the roots of maps without roots.
func TestPromise31Roots(t *testing.T) {
	for e := 1; e <= 3; e++ {
		for _, g := range []int{0, 1, 2, 3, 6, 1000, 1 << 40} {
			got := impl.RootlessRoots(e, g)
			if want := atOrZero(rootedRows()[e], g); got != want || got != impl.RootedCount(e, g) {
				t.Errorf("RootlessRoots(%d, %d) = %d instead of %d", e, g, got, want)
			}
		}
	}
}

// TestSymmetry tells maps without symmetry from those with it: a map has as many different
// roots as darts divided by the renamings that change nothing.
func TestSymmetry(t *testing.T) {
	known := []struct {
		e, g  int
		turns map[int]int
	}{
		{1, 0, map[int]int{2: 2}},
		{2, 0, map[int]int{1: 1, 2: 2, 4: 1}},
		{2, 1, map[int]int{4: 1}},
		{3, 0, map[int]int{1: 6, 2: 4, 3: 2, 6: 2}},
		{3, 1, map[int]int{1: 2, 2: 2, 6: 2}},
	}
	for _, k := range known {
		turns := map[int]int{}
		maps, roots := 0, 0
		for _, m := range allRootless(k.e, k.g) {
			turns[renamings(m, m)]++
			if impl.MapTurns(m) != renamings(m, m) {
				t.Errorf("MapTurns(%v) = %d", m, impl.MapTurns(m))
			}
		}
		for many, times := range k.turns {
			maps += times
			roots += times * 2 * k.e / many
			if turns[many] != times {
				t.Errorf("%d maps with %d edges and the genus %d have %d turns", turns[many], k.e, k.g, many)
			}
		}
		if impl.RootlessCount(k.e, k.g) != maps || impl.RootlessRoots(k.e, k.g) != roots || impl.RootedCount(k.e, k.g) != roots {
			t.Errorf("there are %d maps and %d roots with %d edges and the genus %d", maps, roots, k.e, k.g)
		}
	}
}

// TestRootedOne holds maps with one face against the maps that the tests make and what is known.
func TestRootedOne(t *testing.T) {
	known := [][]int{{}, {1}, {2, 1}, {5, 10}}
	for e := 1; e <= 3; e++ {
		for _, g := range []int{0, 1, 2, 3, 6, 1000, 1 << 40} {
			if got, want := impl.RootedOne(e, g), atOrZero(known[e], g); got != want {
				t.Errorf("RootedOne(%d, %d) = %d instead of %d", e, g, got, want)
			}
		}
		if impl.RootedOne(e, 0) != impl.RootedTrees(e) {
			t.Errorf("RootedOne(%d, 0) is not RootedTrees", e)
		}
		for g := range 3 {
			one := 0
			for _, m := range allRooted(e, g) {
				if _, faces := facesOf(m); faces == 1 {
					one++
				}
			}
			if got := impl.RootedOne(e, g); got != one {
				t.Errorf("RootedOne(%d, %d) = %d, but the tests make %d", e, g, got, one)
			}
		}
	}
}
