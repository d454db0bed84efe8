package tests

import (
	"slices"

	"loop.example/surfacemaps/impl"
)

// covering is a map with a number of sheets and a voltage.
type covering struct {
	m     impl.Map
	k     int
	volts [][]int
}

// voltsOf returns the permutations of k points with some texts, one for each edge.
func voltsOf(k int, texts ...string) [][]int {
	var out [][]int
	for _, s := range texts {
		p, _ := impl.PermFrom(k, s)
		out = append(out, p)
	}
	return out
}

// textsOf returns the texts of permutations.
func textsOf(volts [][]int) []string {
	var out []string
	for _, p := range volts {
		out = append(out, impl.PermText(p))
	}
	return out
}

// stillOf returns the voltage of a map with k sheets that moves none.
func stillOf(m impl.Map, k int) [][]int {
	return slices.Repeat([][]int{stay(k)}, len(m.Flip)/2)
}

// knownCover is a covering with what was worked out for it by hand: the cover, also if it falls
// apart, the windings of the faces by their least dart, and the voltage along a tree.
type knownCover struct {
	name       string
	m          impl.Map
	k          int
	volts      []string
	turn, flip string
	whole      bool
	windings   []string
	branch     int
	genus      int
	deck       int
	tree       []string
}

// covering returns the arguments of a known cover.
func (c knownCover) covering() covering {
	return covering{c.m, c.k, voltsOf(c.k, c.volts...)}
}

// theta has three edges between two vertices, with three faces of two darts.
func theta() impl.Map {
	return mapOf(6, "(0,2,4)(1,5,3)", edgesOf(6))
}

// threeLoops has three loops beside each other at one vertex.
func threeLoops() impl.Map {
	return mapOf(6, "(0,1,2,3,4,5)", edgesOf(6))
}

// sideways has two edges between two vertices, with both lesser darts at one of them.
func sideways() impl.Map {
	return mapOf(4, "(0,2)(1,3)", edgesOf(4))
}

// knownCovers has one sheet with maps of the fewest and the most darts, covers with just PointsMax
// darts, SheetsMax sheets, loops, bridges, one vertex and one face; voltages that move nothing, that
// are all equal, that do not commute; covers that fall apart, and covers of a greater genus.
func knownCovers() []knownCover {
	loop, bridge := knownAs("a loop"), knownAs("a bridge")
	beside, cross := knownAs("two loops beside each other"), knownAs("two loops that cross")
	ring, loopBridge, triangle := knownAs("a ring of two"), knownAs("a loop with a bridge"), knownAs("a triangle")
	six := slices.Repeat([]string{"()"}, 6)
	return []knownCover{
		// One edge.
		{"a loop in one sheet", loop, 1, []string{"()"}, "(0,1)", "(0,1)", true, []string{"()", "()"}, 0, 0, 1, []string{"()"}},
		{"a bridge in one sheet", bridge, 1, []string{"()"}, "()", "(0,1)", true, []string{"()"}, 0, 0, 1, []string{"()"}},
		{"a loop in two sheets", loop, 2, []string{"(0,1)"}, "(0,2)(1,3)", "(0,3)(1,2)", true, []string{"(0,1)", "(0,1)"}, 2, 0, 2, []string{"(0,1)"}},
		{"a loop twice", loop, 2, []string{"()"}, "(0,2)(1,3)", "(0,2)(1,3)", false, []string{"()", "()"}, 0, -1, 2, []string{"()"}},
		{"a bridge in two sheets", bridge, 2, []string{"(0,1)"}, "()", "(0,3)(1,2)", false, []string{"()"}, 0, -1, 2, []string{"()"}},
		{"a loop in three sheets", loop, 3, []string{"(0,1,2)"}, "(0,3)(1,4)(2,5)", "(0,4)(1,5)(2,3)", true, []string{"(0,1,2)", "(0,2,1)"}, 4, 0, 3, []string{"(0,1,2)"}},
		{"a loop in two of three sheets", loop, 3, []string{"(0,2)"}, "(0,3)(1,4)(2,5)", "(0,5)(1,4)(2,3)", false, []string{"(0,2)", "(0,2)"}, 2, -1, 2, []string{"(0,2)"}},
		{"a loop in four sheets", loop, 4, []string{"(0,2,1,3)"}, "(0,4)(1,5)(2,6)(3,7)", "(0,6)(1,7)(2,5)(3,4)", true, []string{"(0,2,1,3)", "(0,3,1,2)"}, 6, 0, 4, []string{"(0,2,1,3)"}},
		{"a loop in two and two sheets", loop, 4, []string{"(0,1)(2,3)"}, "(0,4)(1,5)(2,6)(3,7)", "(0,5)(1,4)(2,7)(3,6)", false, []string{"(0,1)(2,3)", "(0,1)(2,3)"}, 4, -1, 8, []string{"(0,1)(2,3)"}},
		{"a bridge in four sheets", bridge, 4, []string{"(0,1,2)"}, "()", "(0,5)(1,6)(2,4)(3,7)", false, []string{"()"}, 0, -1, 3, []string{"()"}},
		{"a loop in five sheets", loop, 5, []string{"(0,1,2,3,4)"}, "(0,5)(1,6)(2,7)(3,8)(4,9)", "(0,6)(1,7)(2,8)(3,9)(4,5)", true, []string{"(0,1,2,3,4)", "(0,4,3,2,1)"}, 8, 0, -1, []string{"(0,1,2,3,4)"}},
		{"a loop in six sheets", loop, 6, []string{"(0,1,2,3,4,5)"}, "(0,6)(1,7)(2,8)(3,9)(4,10)(5,11)", "(0,7)(1,8)(2,9)(3,10)(4,11)(5,6)", true, []string{"(0,1,2,3,4,5)", "(0,5,4,3,2,1)"}, 10, 0, -1, []string{"(0,1,2,3,4,5)"}},
		{"a bridge in six sheets", bridge, 6, []string{"(0,1,2,3,4,5)"}, "()", "(0,7)(1,8)(2,9)(3,10)(4,11)(5,6)", false, []string{"()"}, 0, -1, -1, []string{"()"}},
		// Two edges in three sheets: just as many darts as there may be.
		{"loops that cross in three sheets", cross, 3, []string{"(0,1)", "(0,1,2)"}, "(0,3,6,9)(1,4,7,10)(2,5,8,11)", "(0,7)(1,6)(2,8)(3,10)(4,11)(5,9)", true, []string{"(0,2,1)"}, 2, 2, 1, []string{"(0,1)", "(0,1,2)"}},
		{"equal loops that cross in three sheets", cross, 3, []string{"(0,1,2)", "(0,1,2)"}, "(0,3,6,9)(1,4,7,10)(2,5,8,11)", "(0,7)(1,8)(2,6)(3,10)(4,11)(5,9)", true, []string{"()"}, 0, 1, 3, []string{"(0,1,2)", "(0,1,2)"}},
		{"equal loops in three sheets", beside, 3, []string{"(0,1,2)", "(0,1,2)"}, "(0,3,6,9)(1,4,7,10)(2,5,8,11)", "(0,4)(1,5)(2,3)(6,10)(7,11)(8,9)", true, []string{"(0,2,1)", "(0,2,1)", "(0,2,1)"}, 6, 1, 3, []string{"(0,1,2)", "(0,1,2)"}},
		{"opposite loops in three sheets", beside, 3, []string{"(0,1,2)", "(0,2,1)"}, "(0,3,6,9)(1,4,7,10)(2,5,8,11)", "(0,4)(1,5)(2,3)(6,11)(7,9)(8,10)", true, []string{"()", "(0,2,1)", "(0,1,2)"}, 4, 0, 3, []string{"(0,1,2)", "(0,2,1)"}},
		{"a ring in three sheets", ring, 3, []string{"(0,1)", "(1,2)"}, "(0,9)(1,10)(2,11)(3,6)(4,7)(5,8)", "(0,4)(1,3)(2,5)(6,9)(7,11)(8,10)", true, []string{"(0,2,1)", "(0,2,1)"}, 4, 0, 1, []string{"()", "(0,2,1)"}},
		{"an equal ring in three sheets", ring, 3, []string{"(0,1,2)", "(0,1,2)"}, "(0,9)(1,10)(2,11)(3,6)(4,7)(5,8)", "(0,4)(1,5)(2,3)(6,10)(7,11)(8,9)", true, []string{"(0,2,1)", "(0,1,2)"}, 4, 0, 3, []string{"()", "(0,2,1)"}},
		{"edges sideways in three sheets", sideways(), 3, []string{"(0,1,2)", "(0,1,2)"}, "(0,6)(1,7)(2,8)(3,9)(4,10)(5,11)", "(0,4)(1,5)(2,3)(6,10)(7,11)(8,9)", false, []string{"()", "()"}, 0, -1, 3, []string{"()", "()"}},
		{"opposite edges sideways", sideways(), 3, []string{"(0,1,2)", "(0,2,1)"}, "(0,6)(1,7)(2,8)(3,9)(4,10)(5,11)", "(0,4)(1,5)(2,3)(6,11)(7,9)(8,10)", true, []string{"(0,2,1)", "(0,1,2)"}, 4, 0, 3, []string{"()", "(0,1,2)"}},
		{"a loop with a bridge in three sheets", loopBridge, 3, []string{"(0,1,2)", "(0,1)"}, "(0,3,6)(1,4,7)(2,5,8)", "(0,4)(1,5)(2,3)(6,10)(7,9)(8,11)", true, []string{"(0,1,2)", "(0,2,1)"}, 4, 0, 1, []string{"(0,1,2)", "()"}},
		{"a bridge with a loop in three sheets", bridgeFirst(), 3, []string{"(0,1,2)", "(0,1)"}, "(0,3,6)(1,4,7)(2,5,8)", "(0,10)(1,11)(2,9)(3,7)(4,6)(5,8)", false, []string{"(0,1)", "(0,1)"}, 2, -1, 1, []string{"()", "(0,1)"}},
		{"two bridges in three sheets", mapOf(4, "(1,3)", edgesOf(4)), 3, []string{"(0,1,2)", "(0,1)"}, "(3,9)(4,10)(5,11)", "(0,4)(1,5)(2,3)(6,10)(7,9)(8,11)", false, []string{"()"}, 0, -1, 1, []string{"()", "()"}},
		// Three edges in two sheets.
		{"a triangle in two sheets", triangle, 2, []string{"(0,1)", "()", "()"}, "(0,10)(1,11)(2,4)(3,5)(6,8)(7,9)", "(0,3)(1,2)(4,6)(5,7)(8,10)(9,11)", true, []string{"(0,1)", "(0,1)"}, 2, 0, 2, []string{"()", "(0,1)", "()"}},
		{"an equal triangle in two sheets", triangle, 2, []string{"(0,1)", "(0,1)", "(0,1)"}, "(0,10)(1,11)(2,4)(3,5)(6,8)(7,9)", "(0,3)(1,2)(4,7)(5,6)(8,11)(9,10)", true, []string{"(0,1)", "(0,1)"}, 2, 0, 2, []string{"()", "(0,1)", "()"}},
		{"edges that cross in two sheets", knownAs("three edges that cross"), 2, []string{"(0,1)", "()", "()"}, "(0,4,8)(1,5,9)(2,6,10)(3,7,11)", "(0,3)(1,2)(4,6)(5,7)(8,10)(9,11)", true, []string{"()"}, 0, 1, 2, []string{"()", "(0,1)", "(0,1)"}},
		{"a theta in two sheets", theta(), 2, []string{"(0,1)", "()", "()"}, "(0,4,8)(1,5,9)(2,10,6)(3,11,7)", "(0,3)(1,2)(4,6)(5,7)(8,10)(9,11)", true, []string{"(0,1)", "(0,1)", "()"}, 2, 0, 2, []string{"()", "(0,1)", "(0,1)"}},
		{"three loops in two sheets", threeLoops(), 2, []string{"(0,1)", "(0,1)", "(0,1)"}, "(0,2,4,6,8,10)(1,3,5,7,9,11)", "(0,3)(1,2)(4,7)(5,6)(8,11)(9,10)", true, []string{"(0,1)", "(0,1)", "(0,1)", "(0,1)"}, 4, 1, 2, []string{"(0,1)", "(0,1)", "(0,1)"}},
		// Six edges in one sheet.
		{"a tetrahedron in one sheet", knownAs("a tetrahedron"), 1, six, "(0,2,4)(1,11,6)(3,7,8)(5,9,10)", edges6, true, []string{"()", "()", "()", "()"}, 0, 0, 1, six},
		{"six loops that all cross in one sheet", knownAs("six loops that all cross"), 1, six, "(0,1,2,3,4,5,6,7,8,9,10,11)", "(0,6)(1,7)(2,8)(3,9)(4,10)(5,11)", true, []string{"()"}, 0, 3, 1, six},
		{"a star of six in one sheet", knownAs("a star of six"), 1, six, "(0,2,4,6,8,10)", edges6, true, []string{"()"}, 0, 0, 1, six},
	}
}

// voltsFrom returns all lists of n permutations out of some, each permutation in memory of its own.
func voltsFrom(perms [][]int, n int) [][][]int {
	out := [][][]int{nil}
	for range n {
		var next [][][]int
		for _, volts := range out {
			for _, p := range perms {
				next = append(next, append(cloneLists(volts), slices.Clone(p)))
			}
		}
		out = next
	}
	return out
}

// sampleCovers returns all voltages of the maps of one edge with 1 to 6 sheets, of the maps of two
// edges with 1 to 3, of the maps of three edges with two sheets, every seventh of them, and all maps in one.
func sampleCovers() []covering {
	var out []covering
	for i, m := range append(ribbonMaps(), sideways(), theta()) {
		out = append(out, covering{m, 1, stillOf(m, 1)})
		edges := len(m.Flip) / 2
		if edges == 3 && i%7 != 0 {
			continue
		}
		for k := 2; k <= 6/edges; k++ {
			for _, volts := range voltsFrom(allPerms(k), edges) {
				out = append(out, covering{m, k, volts})
			}
		}
	}
	for _, c := range knownCovers() {
		out = append(out, c.covering())
	}
	return out
}

// wholeCovers calls do with those of sampleCovers that are whole, and their covers by the definition.
func wholeCovers(do func(c covering, above impl.Map)) {
	for _, c := range sampleCovers() {
		if above := coverOf(c); isMap(above) {
			do(c, above)
		}
	}
}

// sheetPerms returns permutations of k sheets by which they are renamed: all for up to 3 sheets.
func sheetPerms(k int) [][]int {
	if k <= 3 {
		return allPerms(k)
	}
	first := stay(k)
	first[0], first[1] = 1, 0
	return append(somePerms(k), first)
}

// isVoltage tells by the definition whether a list is a voltage of a map with k sheets.
func isVoltage(c covering) bool {
	if !isMap(c.m) || !slices.Contains(within(1, 6), c.k) || !slices.Contains(within(2, 12), c.k*len(c.m.Turn)) {
		return false
	}
	other := func(p []int) bool { return !impl.PermValid(p) || len(p) != c.k }
	return len(c.volts) == len(c.m.Flip)/2 && !slices.ContainsFunc(c.volts, other)
}

// coverOf returns the lists of a cover, also if it falls apart: edge by edge.
func coverOf(c covering) impl.Map {
	n := c.k * len(c.m.Turn)
	out := impl.Map{Turn: make([]int, n), Flip: make([]int, n)}
	for d, next := range c.m.Turn {
		for s := range c.k {
			out.Turn[c.k*d+s] = c.k*next + s
		}
	}
	for e, darts := range edgeDarts(c.m) {
		for s, to := range c.volts[e] {
			lesser, greater := c.k*darts[0]+s, c.k*darts[1]+to
			out.Flip[lesser], out.Flip[greater] = greater, lesser
		}
	}
	return out
}

// windingOf goes in the cover from each sheet of the least dart of a face to the next dart above it.
func windingOf(c covering, d int) []int {
	above := coverOf(c)
	face, _ := facesOf(c.m)
	least := slices.Index(face, face[d])
	out := make([]int, c.k)
	for s := range out {
		at := above.Turn[above.Flip[c.k*least+s]]
		for at/c.k != least {
			at = above.Turn[above.Flip[at]]
		}
		out[s] = at % c.k
	}
	return out
}

// branchOf tells how many faces less than as many for each sheet the lists of the cover have.
func branchOf(c covering) int {
	_, faces := facesOf(c.m)
	_, above := facesOf(coverOf(c))
	return c.k*faces - above
}

// conjOf renames the sheets at the vertex of a dart: at the beginning of each edge, and at its end.
func conjOf(c covering, d int, by []int) [][]int {
	vertex, _ := cycleOf(c.m.Turn)
	out := cloneLists(c.volts)
	for e, darts := range edgeDarts(c.m) {
		for s, to := range c.volts[e] {
			if vertex[darts[0]] == vertex[d] {
				s = by[s]
			}
			if vertex[darts[1]] == vertex[d] {
				to = by[to]
			}
			out[e][s] = to
		}
	}
	return out
}

// nameOrder returns the darts of a map in the order of their names in the form from the dart 0.
func nameOrder(m impl.Map) []int {
	order := []int{0}
	for i := 0; i < len(order); i++ {
		for _, next := range []int{m.Turn[order[i]], m.Flip[order[i]]} {
			if !slices.Contains(order, next) {
				order = append(order, next)
			}
		}
	}
	return order
}

// treeWays returns for each vertex where the way along the tree, from that of the dart 0, leads the sheets.
func treeWays(c covering) [][]int {
	above := coverOf(c)
	vertex, vertices := cycleOf(c.m.Turn)
	ways := make([][]int, vertices)
	ways[vertex[0]] = stay(c.k)
	for _, d := range nameOrder(c.m) {
		from, to := vertex[d], vertex[c.m.Flip[d]]
		if ways[from] == nil || ways[to] != nil {
			continue
		}
		for _, s := range ways[from] {
			ways[to] = append(ways[to], above.Flip[c.k*d+s]%c.k)
		}
	}
	return ways
}

// treeOf has for each edge the way to it along the tree, then along it, and along the tree back.
func treeOf(c covering) [][]int {
	ways := treeWays(c)
	vertex, _ := cycleOf(c.m.Turn)
	out := cloneLists(c.volts)
	for e, darts := range edgeDarts(c.m) {
		there, back := ways[vertex[darts[0]]], ways[vertex[darts[1]]]
		for s := range c.k {
			out[e][s] = slices.Index(back, c.volts[e][there[s]])
		}
	}
	return out
}

// commutesWith tells whether a permutation commutes with all of a voltage.
func commutesWith(volts [][]int, by []int) bool {
	for _, p := range volts {
		for s, to := range p {
			if by[to] != p[by[s]] {
				return false
			}
		}
	}
	return true
}

// shiftOf returns the permutation of the darts of a cover that takes each sheet to another one.
func shiftOf(c covering, by []int) []int {
	out := stay(c.k * len(c.m.Turn))
	for x := range out {
		out[x] = x - x%c.k + by[x%c.k]
	}
	return out
}
