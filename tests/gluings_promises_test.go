package tests

import (
	"slices"
	"testing"

	"loop.example/surfacemaps/impl"
)

// TestKnownGluings holds all functions that tell of one gluing against what was worked out by hand.
func TestKnownGluings(t *testing.T) {
	list := must[[]int](t)
	for _, k := range knownGluings() {
		if !impl.GluingValid(k.p) {
			t.Fatalf("%s is no gluing", k.name)
		}
		got := []int{impl.GluingCorners(k.p), impl.GluingGenus(k.p), impl.GluingChord(k.p)}
		sameList(t, "corners, genus and crossings of "+k.name, got, []int{k.corners, k.genus, k.chord})
		if impl.GluingPlanar(k.p) != (k.chord == 0) {
			t.Errorf("GluingPlanar of %s is %v", k.name, impl.GluingPlanar(k.p))
		}
		sameList(t, "GluingTurn of "+k.name, list(impl.GluingTurn(k.p)), k.turned)
		m := must[impl.Map](t)(impl.GluingMap(k.p))
		sameList(t, "the Flip of "+k.name, m.Flip, k.p)
		if got := impl.PermText(m.Turn); got != k.turn {
			t.Errorf("%s has the Turn %s instead of %s", k.name, got, k.turn)
		}
	}
}

// Promise 32: maps with one face are gluings.
func TestPromise32One(t *testing.T) {
	for e := 1; e <= 3; e++ {
		for _, g := range []int{0, 1, 2, 3, 4, 5, 6, 1000} {
			got, run := impl.RootedOne(e, g), impl.GluingRun(e, g)
			if want := atOrZero(gluingRows()[e], g); got != want || run != -1 && run != got {
				t.Errorf("RootedOne(%d, %d) = %d instead of %d, and GluingRun is %d", e, g, got, want, run)
			}
		}
		if impl.RootedOne(e, 0) != impl.RootedTrees(e) {
			t.Errorf("RootedOne(%d, 0) is not RootedTrees", e)
		}
	}
}

// Promise 33: corners.
func TestPromise33Corners(t *testing.T) {
	list := must[[]int](t)
	for _, p := range sampleGluings() {
		got := impl.GluingCorners(p)
		if want := cornersOf(p); got != want || got < 1 || got > len(p)/2+1 {
			t.Errorf("GluingCorners(%v) = %d instead of %d", p, got, want)
		}
		counts := list(impl.MapCounts(must[impl.Map](t)(impl.GluingMap(p))))
		if turned := impl.GluingCorners(list(impl.GluingTurn(p))); counts[0] != got || turned != got {
			t.Errorf("GluingCorners(%v) = %d, but %d turned, and %d vertices", p, got, turned, counts[0])
		}
	}
}

// Promise 34: the genus.
func TestPromise34Genus(t *testing.T) {
	for _, p := range sampleGluings() {
		got := impl.GluingGenus(p)
		if want := (len(p)/2 + 1 - cornersOf(p)) / 2; got != want {
			t.Errorf("GluingGenus(%v) = %d instead of %d", p, got, want)
		}
		if genus := impl.MapGenus(must[impl.Map](t)(impl.GluingMap(p))); genus != got {
			t.Errorf("GluingGenus(%v) = %d, but MapGenus is %d", p, got, genus)
		}
		if (got == 0) != impl.GluingPlanar(p) || got < 0 || got > impl.GluingChord(p) {
			t.Errorf("GluingGenus(%v) = %d with %d crossings", p, got, impl.GluingChord(p))
		}
	}
}

// closedPairs tells whether the sides between any two glued ones are glued to each other.
func closedPairs(p []int) bool {
	for i, x := range p {
		for between := i + 1; between < x; between++ {
			if p[between] < i || p[between] > x {
				return false
			}
		}
	}
	return true
}

// Promise 35: planar gluings. What holds for them is asked of the others, too: there the
// sides between some two glued ones are not glued to each other.
func TestPromise35Planar(t *testing.T) {
	many := make([]int, 6)
	for _, p := range sampleGluings() {
		planar := impl.GluingPlanar(p)
		if planar != (crossed(p) == 0) || planar != closedPairs(p) {
			t.Errorf("GluingPlanar(%v) = %v", p, planar)
		}
		if !planar {
			continue
		}
		many[len(p)/2]++
		next := false
		for i, x := range p {
			next = next || x == (i+1)%len(p)
		}
		if !next {
			t.Errorf("GluingPlanar holds for %v, where no side is glued to the next one", p)
		}
	}
	sameList(t, "the planar gluings", many, []int{0, 1, 2, 5, 14, 42})
}

// Promise 36: turning.
func TestPromise36Turn(t *testing.T) {
	list := must[[]int](t)
	one := must[impl.Map](t)
	for _, p := range sampleGluings() {
		turned := list(impl.GluingTurn(p))
		sameList(t, "GluingTurn", turned, turnedOnce(p))
		if impl.GluingGenus(turned) != impl.GluingGenus(p) || impl.GluingChord(turned) != impl.GluingChord(p) {
			t.Errorf("GluingTurn(%v) = %v has another genus or other crossings", p, turned)
		}
		if !impl.MapSame(one(impl.GluingMap(p)), one(impl.GluingMap(turned))) {
			t.Errorf("the maps of %v and %v are not the same", p, turned)
		}
		around := p
		for range p {
			around = list(impl.GluingTurn(around))
		}
		sameList(t, "as many turns as sides", around, p)
	}
}

// Promise 37: maps of gluings.
func TestPromise37Map(t *testing.T) {
	list := must[[]int](t)
	for _, p := range sampleGluings() {
		m := must[impl.Map](t)(impl.GluingMap(p))
		if !impl.MapValid(m) || list(impl.MapCounts(m))[2] != 1 {
			t.Fatalf("GluingMap(%v) = %v is no map with one face", p, m)
		}
		sameList(t, "the Flip of GluingMap", m.Flip, p)
		sameList(t, "the face of GluingMap", thenPerm(m.Flip, m.Turn), append(stay(len(p))[1:], 0))
		sameList(t, "GluingOf the dart 0", list(impl.GluingOf(m, 0)), p)
		sameList(t, "GluingTurn of the next dart", list(impl.GluingTurn(list(impl.GluingOf(m, 1)))), p)
		for root := range p {
			back := list(impl.GluingOf(m, root))
			for range root {
				back = list(impl.GluingTurn(back))
			}
			sameList(t, "GluingOf a further dart, turned", back, p)
		}
	}
}

// walked returns the partners of the darts of a map with one face, by a walk along it.
func walked(m impl.Map, root int) []int {
	walk := []int{root}
	for len(walk) < len(m.Turn) {
		walk = append(walk, m.Turn[m.Flip[walk[len(walk)-1]]])
	}
	out := make([]int, len(walk))
	for i, d := range walk {
		out[i] = slices.Index(walk, m.Flip[d])
	}
	return out
}

// oneFaced returns maps with one face and at most SidesMax darts: those of gluings, renamed, and others.
func oneFaced(t *testing.T) []impl.Map {
	var out []impl.Map
	for i, p := range sampleGluings() {
		m := must[impl.Map](t)(impl.GluingMap(p))
		names := somePerms(len(p))
		out = append(out, must[impl.Map](t)(impl.MapRename(m, names[i%len(names)])))
	}
	for _, m := range sampleMaps() {
		if _, faces := facesOf(m); faces == 1 && len(m.Turn) <= 10 {
			out = append(out, m)
		}
	}
	return out
}

// Promise 38: gluings of maps.
func TestPromise38Of(t *testing.T) {
	list := must[[]int](t)
	one := must[impl.Map](t)
	for _, m := range oneFaced(t) {
		for root := range m.Turn {
			p := list(impl.GluingOf(m, root))
			sameList(t, "GluingOf", p, walked(m, root))
			glued := one(impl.GluingMap(p))
			if !impl.MapSame(glued, m) {
				t.Errorf("GluingMap of GluingOf(%v, %d) is %v", m, root, glued)
			}
			sameMap(t, "MapForm of GluingMap of GluingOf", one(impl.MapForm(glued, 0)), one(impl.MapForm(m, root)))
		}
	}
}

// TestKnownOf asks for gluings that were worked out by hand.
func TestKnownOf(t *testing.T) {
	bridges := mapOf(4, "(1,2)", "(0,1)(2,3)")
	crossing := mapOf(4, "(0,1,2,3)", "(0,2)(1,3)")
	six := mapOf(6, "(0,2,4)(1,3,5)", "(0,1)(2,3)(4,5)")
	tail := mapOf(6, "(0,1,2,3,4)", "(0,2)(1,3)(4,5)")
	for _, k := range []struct {
		m    impl.Map
		root int
		want []int
	}{
		{mapOf(2, "()", "(0,1)"), 0, []int{1, 0}},
		{mapOf(2, "()", "(0,1)"), 1, []int{1, 0}},
		{bridges, 0, []int{3, 2, 1, 0}},
		{bridges, 1, []int{1, 0, 3, 2}},
		{bridges, 2, []int{1, 0, 3, 2}},
		{bridges, 3, []int{3, 2, 1, 0}},
		{crossing, 3, []int{2, 3, 0, 1}},
		{six, 0, []int{3, 4, 5, 0, 1, 2}},
		{six, 5, []int{3, 4, 5, 0, 1, 2}},
		{tail, 0, []int{2, 3, 0, 1, 5, 4}},
		{tail, 4, []int{1, 0, 4, 5, 2, 3}},
		{tail, 5, []int{5, 3, 4, 1, 2, 0}},
	} {
		sameList(t, "GluingOf", must[[]int](t)(impl.GluingOf(k.m, k.root)), k.want)
	}
}

// Promise 39: gluings counted one by one.
func TestPromise39Count(t *testing.T) {
	for n := 1; n <= 4; n++ {
		for _, g := range []int{0, 1, 2, 3, 4, 5, 6, 7, 1000, 1 << 40} {
			got, run := impl.GluingCount(n, g), impl.GluingRun(n, g)
			many := 0
			for _, p := range allGluings(n) {
				if n+1-cornersOf(p) == 2*g {
					many++
				}
			}
			if want := atOrZero(gluingRows()[n], g); got != want || got != many || run != -1 && run != got {
				t.Errorf("GluingCount(%d, %d) = %d instead of %d, and GluingRun is %d", n, g, got, want, run)
			}
		}
		if impl.GluingCount(n, 0) != impl.RootedTrees(n) {
			t.Errorf("GluingCount(%d, 0) is not RootedTrees", n)
		}
	}
}

// Promise 40: the recursion.
func TestPromise40Run(t *testing.T) {
	for n := range 10 {
		for g := range 6 {
			got := impl.GluingRun(n, g)
			if want := atOrZero(gluingRows()[n], g); got != want {
				t.Errorf("GluingRun(%d, %d) = %d instead of %d", n, g, got, want)
			}
			if (got > 0) != (2*g <= n) || got < 0 {
				t.Errorf("GluingRun(%d, %d) = %d", n, g, got)
			}
		}
		if got := sumOfRuns(n); got != product(n) {
			t.Errorf("GluingRun(%d, g) of all g is %d instead of %d", n, got, product(n))
		}
	}
	many := make([]int, 3)
	for _, p := range allGluings(5) {
		many[(6-cornersOf(p))/2]++
	}
	sameList(t, "the gluings of ten sides", []int{impl.GluingRun(5, 0), impl.GluingRun(5, 1), impl.GluingRun(5, 2)}, many)
}

// Promise 41: colors.
func TestPromise41Colors(t *testing.T) {
	for n := 1; n <= 7; n++ {
		for c := range 9 {
			got, sum, known := impl.GluingColors(n, c), 0, 0
			for g := range n/2 + 1 {
				sum += impl.GluingRun(n, g) * power(c, n+1-2*g)
				known += gluingRows()[n][g] * power(c, n+1-2*g)
			}
			if got != sum || got != known {
				t.Errorf("GluingColors(%d, %d) = %d instead of %d", n, c, got, known)
			}
		}
	}
}

// fits tells whether a coloring of the corners, a number with a digit for each one, has
// one color at corners that are one.
func fits(p []int, c, coloring int) bool {
	color := make([]int, len(p))
	for i := range color {
		color[i] = coloring % c
		coloring /= c
	}
	for i, x := range p {
		if color[i] != color[(x+1)%len(p)] {
			return false
		}
	}
	return true
}

// TestColorings goes through all colorings of all corners, one by one.
func TestColorings(t *testing.T) {
	for n := 1; n <= 4; n++ {
		for c := 1; c <= 4 && power(c, 2*n) < 5000; c++ {
			many := 0
			for _, p := range allGluings(n) {
				for coloring := range power(c, 2*n) {
					if fits(p, c, coloring) {
						many++
					}
				}
			}
			if got := impl.GluingColors(n, c); got != many {
				t.Errorf("GluingColors(%d, %d) = %d instead of %d", n, c, got, many)
			}
		}
	}
}

// Promise 42: all gluings.
func TestPromise42All(t *testing.T) {
	for n := 1; n <= 3; n++ {
		all := must[[][]int](t)(impl.GluingAll(n))
		sameLists(t, "GluingAll", all, allGluings(n))
		if len(all) != sumOfRuns(n) {
			t.Errorf("GluingAll(%d) has %d gluings", n, len(all))
		}
		for i, p := range all {
			if !isGluing(p) || len(p) != 2*n || i > 0 && slices.Compare(all[i-1], p) >= 0 {
				t.Errorf("GluingAll(%d) has %v at %d", n, p, i)
			}
			turned := must[[]int](t)(impl.GluingTurn(p))
			if !slices.ContainsFunc(all, func(other []int) bool { return slices.Equal(turned, other) }) {
				t.Errorf("GluingAll(%d) has %v, but not turned", n, p)
			}
		}
	}
	sameLists(t, "GluingAll", must[[][]int](t)(impl.GluingAll(2)), [][]int{{1, 0, 3, 2}, {2, 3, 0, 1}, {3, 2, 1, 0}})
}

// Promise 43: pairs that cross.
func TestPromise43Chord(t *testing.T) {
	most := 0
	for _, p := range sampleGluings() {
		got, n := impl.GluingChord(p), len(p)/2
		if want := crossed(p); got != want || got < 0 || got > n*(n-1)/2 {
			t.Errorf("GluingChord(%v) = %d instead of %d", p, got, want)
		}
		sum := 0
		for i, x := range p {
			for j, y := range p {
				if i < x && j < y && (i < j && j < x) != (i < y && y < x) {
					sum++
				}
			}
		}
		if sum != 2*got {
			t.Errorf("GluingChord(%v) = %d, but %d pairs have just one side between another one's", p, got, sum)
		}
		most = max(most, got)
	}
	if most != 10 {
		t.Errorf("the greatest number of crossings here is %d", most)
	}
}
