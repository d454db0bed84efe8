package tests

import (
	"slices"
	"testing"

	"loop.example/surfacemaps/impl"
)

// TestKnownCovers holds all functions that tell of one voltage against what was worked out by hand.
func TestKnownCovers(t *testing.T) {
	for _, k := range knownCovers() {
		c := k.covering()
		if !impl.VoltageValid(c.m, c.k, c.volts) || impl.CoverWhole(c.m, c.k, c.volts) != k.whole {
			t.Fatalf("%s is not told as a cover", k.name)
		}
		lists := coverOf(c)
		if impl.PermText(lists.Turn) != k.turn || impl.PermText(lists.Flip) != k.flip || isMap(lists) != k.whole {
			t.Errorf("the definition makes %v of %s", lists, k.name)
		}
		above, ok := impl.CoverMap(c.m, c.k, c.volts)
		if !k.whole {
			failsMap(t, "CoverMap of "+k.name)(above, ok)
		} else if !ok || impl.PermText(above.Turn) != k.turn || impl.PermText(above.Flip) != k.flip {
			t.Errorf("CoverMap of %s is %v", k.name, above)
		}
		face, faces := facesOf(c.m)
		if faces != len(k.windings) {
			t.Fatalf("%s has %d faces", k.name, faces)
		}
		for d := range c.m.Turn {
			w := must[[]int](t)(impl.CoverWinding(c.m, c.k, c.volts, d))
			if got := impl.PermText(w); got != k.windings[face[d]] || len(w) != c.k {
				t.Errorf("CoverWinding of %s is %s for the dart %d", k.name, got, d)
			}
		}
		branch, genus, deck := impl.CoverBranch(c.m, c.k, c.volts), impl.CoverGenus(c.m, c.k, c.volts), impl.CoverDeck(c.m, c.k, c.volts)
		if branch != k.branch || genus != k.genus || deck != k.deck {
			t.Errorf("of %s, CoverBranch is %d, CoverGenus %d and CoverDeck %d", k.name, branch, genus, deck)
		}
		if got := textsOf(must[[][]int](t)(impl.CoverTree(c.m, c.k, c.volts))); !slices.Equal(got, k.tree) {
			t.Errorf("CoverTree of %s is %v instead of %v", k.name, got, k.tree)
		}
	}
}

// TestKnownConjs holds CoverConj against what was worked out by hand: at the lesser and at the
// greater dart of an edge, at vertices with loops, by permutations that lead back and others.
func TestKnownConjs(t *testing.T) {
	loop, bridge, loopBridge := knownAs("a loop"), knownAs("a bridge"), knownAs("a loop with a bridge")
	ring, six := knownAs("a ring of two"), slices.Repeat([]string{"()"}, 6)
	for _, c := range []struct {
		m     impl.Map
		k     int
		volts []string
		d     int
		by    string
		want  []string
	}{
		{bridge, 3, []string{"(0,1,2)"}, 0, "(0,1)", []string{"(0,2)"}},
		{bridge, 3, []string{"(0,1,2)"}, 1, "(0,1)", []string{"(1,2)"}},
		{bridge, 3, []string{"(0,1,2)"}, 0, "(0,1,2)", []string{"()"}},
		{bridge, 3, []string{"(0,1,2)"}, 1, "(0,1,2)", []string{"(0,2,1)"}},
		{bridge, 3, []string{"()"}, 0, "(0,1,2)", []string{"(0,2,1)"}},
		{bridge, 3, []string{"()"}, 1, "(0,1,2)", []string{"(0,1,2)"}},
		{bridge, 6, []string{"(0,1)"}, 1, "(2,3)(4,5)", []string{"(0,1)(2,3)(4,5)"}},
		{loop, 3, []string{"(0,1,2)"}, 0, "(0,1)", []string{"(0,2,1)"}},
		{loop, 3, []string{"(0,1,2)"}, 1, "(0,1)", []string{"(0,2,1)"}},
		{loop, 3, []string{"(0,1)"}, 0, "(0,1,2)", []string{"(1,2)"}},
		{loop, 6, []string{"(0,1)"}, 1, "(0,5,4,3,2,1)", []string{"(0,5)"}},
		{loop, 2, []string{"(0,1)"}, 1, "(0,1)", []string{"(0,1)"}},
		{loop, 1, []string{"()"}, 0, "()", []string{"()"}},
		{loopBridge, 3, []string{"(0,1,2)", "(0,2)"}, 0, "(0,1)", []string{"(0,2,1)", "(0,1,2)"}},
		{loopBridge, 3, []string{"(0,1,2)", "(0,2)"}, 1, "(0,1)", []string{"(0,2,1)", "(0,1,2)"}},
		{loopBridge, 3, []string{"(0,1,2)", "(0,2)"}, 2, "(0,1)", []string{"(0,2,1)", "(0,1,2)"}},
		{loopBridge, 3, []string{"(0,1,2)", "(0,2)"}, 3, "(0,1)", []string{"(0,1,2)", "(0,2,1)"}},
		{ring, 3, []string{"(0,1)", "(1,2)"}, 3, "(0,1,2)", []string{"(0,2)", "(0,1)"}},
		{ring, 3, []string{"(0,1)", "(1,2)"}, 0, "(0,1,2)", []string{"(0,2)", "(0,1)"}},
		{ring, 3, []string{"(0,1)", "(1,2)"}, 2, "()", []string{"(0,1)", "(1,2)"}},
		{knownAs("a tetrahedron"), 1, six, 11, "()", six},
	} {
		by := voltsOf(c.k, c.by)[0]
		got := must[[][]int](t)(impl.CoverConj(c.m, c.k, voltsOf(c.k, c.volts...), c.d, by))
		if !slices.Equal(textsOf(got), c.want) {
			t.Errorf("CoverConj(%v, %d, %v, %d, %s) = %v instead of %v", c.m, c.k, c.volts, c.d, c.by, textsOf(got), c.want)
		}
	}
}

// TestKnownShifts holds CoverShift against what was worked out by hand, also for covers that fall apart.
func TestKnownShifts(t *testing.T) {
	loop, bridge, ring := knownAs("a loop"), knownAs("a bridge"), knownAs("a ring of two")
	for _, c := range []struct {
		m        impl.Map
		k        int
		by, want string
	}{
		{loop, 1, "()", "()"},
		{loop, 2, "()", "()"},
		{loop, 2, "(0,1)", "(0,1)(2,3)"},
		{bridge, 2, "(0,1)", "(0,1)(2,3)"},
		{loop, 3, "(0,1,2)", "(0,1,2)(3,4,5)"},
		{loop, 6, "(0,5)", "(0,5)(6,11)"},
		{bridge, 6, "(0,1,2,3,4,5)", "(0,1,2,3,4,5)(6,7,8,9,10,11)"},
		{ring, 3, "(1,2)", "(1,2)(4,5)(7,8)(10,11)"},
		{theta(), 2, "(0,1)", "(0,1)(2,3)(4,5)(6,7)(8,9)(10,11)"},
		{knownAs("a tetrahedron"), 1, "()", "()"},
	} {
		by := voltsOf(c.k, c.by)[0]
		for _, p := range allPerms(min(c.k, 3)) {
			volts := slices.Repeat([][]int{append(p, within(len(p), c.k-1)...)}, len(c.m.Flip)/2)
			got := must[[]int](t)(impl.CoverShift(c.m, c.k, volts, by))
			if impl.PermText(got) != c.want || len(got) != c.k*len(c.m.Turn) {
				t.Errorf("CoverShift(%v, %d, %v, %s) = %v", c.m, c.k, volts, c.by, got)
			}
		}
	}
}

// TestKnownDecks holds CoverDeck against known numbers for just 4 sheets, and for two edges of a
// ring in three: the permutations are those of the voltage itself, not those along a tree.
func TestKnownDecks(t *testing.T) {
	for s, want := range map[string]int{"()": 24, "(0,1)": 4, "(0,1)(2,3)": 8, "(1,3,2)": 3, "(0,3,1,2)": 4} {
		for _, m := range []impl.Map{knownAs("a loop"), knownAs("a bridge")} {
			if got := impl.CoverDeck(m, 4, voltsOf(4, s)); got != want {
				t.Errorf("CoverDeck is %d for %s", got, s)
			}
			if got := impl.CoverDeck(m, 5, voltsOf(5, s)); got != -1 {
				t.Errorf("CoverDeck is %d for %s in five sheets", got, s)
			}
		}
	}
	ring := knownAs("a ring of two")
	for _, c := range []struct {
		a, b string
		want int
	}{
		{"()", "()", 6}, {"(0,1)", "()", 2}, {"()", "(0,1,2)", 3}, {"(0,1)", "(0,1)", 2}, {"(0,1)", "(1,2)", 1}, {"(0,1,2)", "(0,2,1)", 3}, {"(0,2,1)", "(0,2)", 1},
	} {
		if got := impl.CoverDeck(ring, 3, voltsOf(3, c.a, c.b)); got != c.want {
			t.Errorf("CoverDeck is %d for %s and %s", got, c.a, c.b)
		}
	}
}

// Promise 98: voltages, and one sheet.
func TestPromise98Valid(t *testing.T) {
	for _, c := range sampleCovers() {
		if !isVoltage(c) || !impl.VoltageValid(c.m, c.k, c.volts) || len(c.volts) != len(c.m.Flip)/2 {
			t.Fatalf("VoltageValid does not hold for %v", c)
		}
		for d := range c.m.Turn {
			w := must[[]int](t)(impl.CoverWinding(c.m, c.k, c.volts, d))
			if !impl.PermValid(w) || len(w) != c.k {
				t.Errorf("CoverWinding(%v, %d) = %v", c, d, w)
			}
		}
	}
}

// TestOneSheet asks all functions for one sheet: the cover is the map, with all of its numbers.
func TestOneSheet(t *testing.T) {
	most := 0
	for _, m := range ribbonMaps() {
		still := stillOf(m, 1)
		sameLists(t, "CoverTrivial in one sheet", must[[][]int](t)(impl.CoverTrivial(m, 1)), still)
		sameMap(t, "CoverMap in one sheet", must[impl.Map](t)(impl.CoverMap(m, 1, still)), m)
		if !impl.VoltageValid(m, 1, still) || !impl.CoverWhole(m, 1, still) || impl.CoverBranch(m, 1, still) != 0 || impl.CoverDeck(m, 1, still) != 1 {
			t.Errorf("%v is not the cover in one sheet", m)
		}
		if got := impl.CoverGenus(m, 1, still); got != genusOf(m) {
			t.Errorf("CoverGenus(%v) = %d in one sheet", m, got)
		}
		sameLists(t, "CoverTree in one sheet", must[[][]int](t)(impl.CoverTree(m, 1, still)), still)
		sameList(t, "CoverShift in one sheet", must[[]int](t)(impl.CoverShift(m, 1, still, []int{0})), stay(len(m.Turn)))
		for d := range m.Turn {
			sameList(t, "CoverWinding in one sheet", must[[]int](t)(impl.CoverWinding(m, 1, still, d)), []int{0})
			sameLists(t, "CoverConj in one sheet", must[[][]int](t)(impl.CoverConj(m, 1, still, d, []int{0})), still)
		}
		if len(m.Turn) == impl.PointsMax {
			most++
		}
	}
	if most < 100 {
		t.Errorf("just %d maps here have %d darts", most, impl.PointsMax)
	}
}

// Promise 99: covers.
func TestPromise99Map(t *testing.T) {
	list := must[[]int](t)
	whole, apart, full := 0, 0, 0
	for _, c := range sampleCovers() {
		above, ok := impl.CoverMap(c.m, c.k, c.volts)
		want := coverOf(c)
		if !isMap(want) {
			failsMap(t, "CoverMap")(above, ok)
			apart++
			continue
		}
		if !ok || compareMaps(above, want) != 0 {
			t.Fatalf("CoverMap(%v) = %v, %v instead of %v", c, above, ok, want)
		}
		counts := list(impl.MapCounts(c.m))
		branch := impl.CoverBranch(c.m, c.k, c.volts)
		sameList(t, "MapCounts of the cover", list(impl.MapCounts(above)), []int{c.k * counts[0], c.k * counts[1], c.k*counts[2] - branch})
		sameList(t, "MapDegrees of the cover", list(impl.MapDegrees(above)), eachTimes(list(impl.MapDegrees(c.m)), c.k))
		whole++
		if c.k > 1 && len(above.Turn) == impl.PointsMax {
			full++
		}
	}
	if whole < 1000 || apart < 1000 || full < 1000 {
		t.Errorf("just %d covers here are whole, %d fall apart, %d have %d darts", whole, apart, full, impl.PointsMax)
	}
}

// eachTimes returns a list with each number k times, one behind the other.
func eachTimes(list []int, k int) []int {
	var out []int
	for _, x := range list {
		out = append(out, slices.Repeat([]int{x}, k)...)
	}
	return out
}

// Promise 100: the genus.
func TestPromise100Genus(t *testing.T) {
	higher := 0
	for _, c := range sampleCovers() {
		got, above := impl.CoverGenus(c.m, c.k, c.volts), coverOf(c)
		if !isMap(above) {
			if got != -1 {
				t.Errorf("CoverGenus(%v) = %d", c, got)
			}
			continue
		}
		branch := impl.CoverBranch(c.m, c.k, c.volts)
		if got != genusOf(above) || got != impl.MapGenus(must[impl.Map](t)(impl.CoverMap(c.m, c.k, c.volts))) {
			t.Errorf("CoverGenus(%v) = %d instead of %d", c, got, genusOf(above))
		}
		if 2-2*got != c.k*(2-2*genusOf(c.m))-branch || got < genusOf(c.m) || branch%2 != 0 {
			t.Errorf("CoverGenus(%v) = %d, CoverBranch %d", c, got, branch)
		}
		if got > genusOf(c.m) {
			higher++
		}
	}
	if higher < 300 {
		t.Errorf("just %d covers here have a greater genus", higher)
	}
}

// Promise 101: covers that are whole.
func TestPromise101Whole(t *testing.T) {
	for _, c := range sampleCovers() {
		got := impl.CoverWhole(c.m, c.k, c.volts)
		if got != isMap(coverOf(c)) || c.k == 1 && !got {
			t.Errorf("CoverWhole(%v) = %v", c, got)
		}
		var moves [][2]int
		for _, p := range must[[][]int](t)(impl.CoverTree(c.m, c.k, c.volts)) {
			for s, to := range p {
				moves = append(moves, [2]int{s, to})
			}
		}
		if got != (groups(c.k, moves) == 1) {
			t.Errorf("CoverWhole(%v) = %v, but by CoverTree the sheets are in %d groups", c, got, groups(c.k, moves))
		}
	}
}

// lengthsAbove returns the numbers of darts of the faces of a cover above the face of a dart, sorted.
func lengthsAbove(c covering, above impl.Map, d int) []int {
	below, _ := facesOf(c.m)
	face, faces := facesOf(above)
	darts := make([]int, faces)
	for x, f := range face {
		if below[x/c.k] == below[d] {
			darts[f]++
		}
	}
	slices.Sort(darts)
	return slices.DeleteFunc(darts, func(n int) bool { return n == 0 })
}

// Promise 102: windings.
func TestPromise102Winding(t *testing.T) {
	short, twice, others := 0, 0, 0
	for _, c := range sampleCovers() {
		above := coverOf(c)
		face, _ := facesOf(c.m)
		for d := range c.m.Turn {
			w := must[[]int](t)(impl.CoverWinding(c.m, c.k, c.volts, d))
			sameList(t, "CoverWinding", w, windingOf(c, d))
			size := 0
			for _, f := range face {
				if f == face[d] {
					size++
				}
			}
			cycles, many := cycleOf(w)
			lengths := make([]int, many)
			for _, cycle := range cycles {
				lengths[cycle] += size
			}
			slices.Sort(lengths)
			sameList(t, "the faces above a face", lengthsAbove(c, above, d), lengths)
			if size == 1 {
				short++
			}
			if face[c.m.Flip[d]] == face[d] {
				twice++
			}
			if slices.Index(face, face[d]) != d && !slices.Equal(w, stay(c.k)) {
				others++
			}
		}
	}
	if short < 1000 || twice < 1000 || others < 1000 {
		t.Errorf("just %d darts here are faces, %d have their edge twice in a face, %d are not the least ones", short, twice, others)
	}
}

// Promise 103: branches.
func TestPromise103Branch(t *testing.T) {
	none, some := 0, 0
	for _, c := range sampleCovers() {
		_, faces := facesOf(c.m)
		branch := impl.CoverBranch(c.m, c.k, c.volts)
		if branch != branchOf(c) || branch < 0 || branch > (c.k-1)*faces {
			t.Errorf("CoverBranch(%v) = %d instead of %d", c, branch, branchOf(c))
		}
		if got := impl.CoverBranch(c.m, c.k, must[[][]int](t)(impl.CoverTrivial(c.m, c.k))); got != 0 {
			t.Errorf("CoverBranch(%v) of CoverTrivial is %d", c.m, got)
		}
		if got := impl.CoverBranch(c.m, c.k, must[[][]int](t)(impl.CoverTree(c.m, c.k, c.volts))); got != branch {
			t.Errorf("CoverBranch(%v) = %d, but %d of CoverTree", c, branch, got)
		}
		if c.k > 1 && branch == 0 {
			none++
		}
		if branch > 0 {
			some++
		}
	}
	if none < 300 || some < 1000 {
		t.Errorf("just %d covers here have no branches, %d have some", none, some)
	}
}

// Promise 104: sheets renamed at a vertex.
func TestPromise104Conj(t *testing.T) {
	lists := must[[][]int](t)
	loops, changed := 0, 0
	for _, c := range sampleCovers() {
		whole := isMap(coverOf(c))
		for i, by := range sheetPerms(c.k) {
			back := must[[]int](t)(impl.PermBack(by))
			for d := range c.m.Turn {
				got := lists(impl.CoverConj(c.m, c.k, c.volts, d, by))
				sameLists(t, "CoverConj", got, conjOf(c, d, by))
				sameLists(t, "CoverConj back", lists(impl.CoverConj(c.m, c.k, got, d, back)), c.volts)
				if impl.CoverWhole(c.m, c.k, got) != whole {
					t.Errorf("CoverWhole holds just for %v or renamed at %d by %v", c, d, by)
				}
				// To hold two maps against each other takes long, so one dart by each is asked.
				if whole && d == i%len(c.m.Turn) {
					sameCover(t, c, got)
				}
				if kindAt(c.m, d) == 2 {
					loops++
				}
				if !slices.EqualFunc(got, c.volts, slices.Equal[[]int]) {
					changed++
				}
			}
		}
	}
	if loops < 1000 || changed < 1000 {
		t.Errorf("just %d vertices here have loops, %d voltages change", loops, changed)
	}
}

// kindAt returns of which kind the edge of a dart is: 2 for a loop.
func kindAt(m impl.Map, d int) int {
	for e, darts := range edgeDarts(m) {
		if slices.Contains(darts[:], d) {
			return kindOf(m, e)
		}
	}
	return -1
}

// sameCover reports an error unless two voltages of a map have covers that are the same.
func sameCover(t *testing.T, c covering, volts [][]int) {
	t.Helper()
	one := must[impl.Map](t)
	a, b := one(impl.CoverMap(c.m, c.k, c.volts)), one(impl.CoverMap(c.m, c.k, volts))
	if !impl.MapSame(a, b) || renamings(a, b) == 0 {
		t.Errorf("the covers of %v and of %v are not the same", c, volts)
	}
}

// Promise 105: voltages along a tree.
func TestPromise105Tree(t *testing.T) {
	lists := must[[][]int](t)
	kept, changed := 0, 0
	for _, c := range sampleCovers() {
		got := lists(impl.CoverTree(c.m, c.k, c.volts))
		sameLists(t, "CoverTree", got, treeOf(c))
		sameLists(t, "CoverTree of CoverTree", lists(impl.CoverTree(c.m, c.k, got)), got)
		_, vertices := cycleOf(c.m.Turn)
		still := 0
		for _, p := range got {
			if slices.Equal(p, stay(c.k)) {
				still++
			}
		}
		if still < vertices-1 {
			t.Errorf("CoverTree(%v) = %v leaves just %d edges still", c, got, still)
		}
		whole := isMap(coverOf(c))
		if impl.CoverWhole(c.m, c.k, got) != whole {
			t.Errorf("CoverWhole holds just for %v or for CoverTree of it", c)
		}
		if whole {
			sameCover(t, c, got)
		}
		switch same := slices.EqualFunc(got, c.volts, slices.Equal[[]int]); {
		case !same:
			changed++
		case vertices > 1 && c.k > 1:
			kept++
		}
	}
	if kept < 100 || changed < 1000 {
		t.Errorf("just %d voltages here are already still along the tree, %d are not", kept, changed)
	}
}

// Promise 106: sheets shifted.
func TestPromise106Shift(t *testing.T) {
	commuting, others := 0, 0
	for _, c := range sampleCovers() {
		above := coverOf(c)
		whole := isMap(above)
		for _, by := range sheetPerms(c.k) {
			shift := must[[]int](t)(impl.CoverShift(c.m, c.k, c.volts, by))
			sameList(t, "CoverShift", shift, shiftOf(c, by))
			if !impl.PermValid(shift) || len(shift) != c.k*len(c.m.Turn) {
				t.Fatalf("CoverShift(%v, %v) = %v", c, by, shift)
			}
			if !whole {
				continue
			}
			same := compareMaps(must[impl.Map](t)(impl.MapRename(above, shift)), above) == 0
			if same != commutesWith(c.volts, by) {
				t.Errorf("that CoverShift(%v, %v) renames without a change is %v", c, by, same)
			}
			if same && !slices.Equal(by, stay(c.k)) {
				commuting++
			}
			if !same {
				others++
			}
		}
	}
	if commuting < 300 || others < 1000 {
		t.Errorf("just %d shifts here commute, %d do not", commuting, others)
	}
}

// Promise 107: permutations that commute with a voltage.
func TestPromise107Deck(t *testing.T) {
	counts := map[int]int{}
	for _, c := range sampleCovers() {
		got := impl.CoverDeck(c.m, c.k, c.volts)
		if c.k > 4 {
			if got != -1 {
				t.Errorf("CoverDeck(%v) = %d", c, got)
			}
			continue
		}
		want := 0
		for _, by := range allPerms(c.k) {
			if commutesWith(c.volts, by) {
				want++
			}
		}
		if got != want || got < 1 {
			t.Errorf("CoverDeck(%v) = %d instead of %d", c, got, want)
		}
		counts[got]++
		if got := impl.CoverDeck(c.m, c.k, must[[][]int](t)(impl.CoverTrivial(c.m, c.k))); got != upTo(c.k) {
			t.Errorf("CoverDeck(%v, %d) of CoverTrivial is %d", c.m, c.k, got)
		}
	}
	wholeCovers(func(c covering, above impl.Map) {
		if got := impl.CoverDeck(c.m, c.k, c.volts); c.k <= 4 && (c.k%got != 0 || impl.MapTurns(above)%got != 0) {
			t.Errorf("CoverDeck(%v) = %d", c, got)
		}
	})
	for _, deck := range []int{1, 2, 3, 4, 6, 8, 24} {
		if counts[deck] == 0 {
			t.Errorf("no CoverDeck here is %d", deck)
		}
	}
}

// Promise 108: voltages that move nothing.
func TestPromise108Trivial(t *testing.T) {
	for _, m := range append(ribbonMaps(), sideways(), theta()) {
		for k := 1; k <= 6 && k*len(m.Turn) <= 12; k++ {
			got := must[[][]int](t)(impl.CoverTrivial(m, k))
			sameLists(t, "CoverTrivial", got, stillOf(m, k))
			if !impl.VoltageValid(m, k, got) || impl.CoverWhole(m, k, got) != (k == 1) {
				t.Errorf("CoverWhole of CoverTrivial(%v, %d) is %v", m, k, impl.CoverWhole(m, k, got))
			}
			for d := range m.Turn {
				sameList(t, "CoverWinding of CoverTrivial", must[[]int](t)(impl.CoverWinding(m, k, got, d)), stay(k))
			}
			sameLists(t, "CoverTree of CoverTrivial", must[[][]int](t)(impl.CoverTree(m, k, got)), got)
		}
	}
}
