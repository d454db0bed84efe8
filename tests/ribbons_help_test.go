package tests

import (
	"math"
	"slices"

	"loop.example/surfacemaps/impl"
)

// knownRibbon is a map with what was worked out for it by hand. Each term is a number of
// choices, and their parts less 1, nullity and genus.
type knownRibbon struct {
	name   string
	m      impl.Map
	kinds  []int
	trees  int
	quasis int
	terms  [][4]int
}

// allKinds returns a kind for each of n edges.
func allKinds(kind, n int) []int {
	return slices.Repeat([]int{kind}, n)
}

// fiveRow and sixRow have the ways to choose 0, 1, 2 and so on of five and of six things.
var (
	fiveRow = []int{1, 5, 10, 10, 5, 1}
	sixRow  = []int{1, 6, 15, 20, 15, 6, 1}
)

// knownAs returns the known map with a name.
func knownAs(name string) impl.Map {
	all := knownMaps()
	return all[slices.IndexFunc(all, func(k knownMap) bool { return k.name == name })].m
}

// termsBy returns a term for each number k of chosen edges, with as many choices as a row has.
func termsBy(row []int, term func(k int) [3]int) [][4]int {
	var out [][4]int
	for k, many := range row {
		x := term(k)
		out = append(out, [4]int{many, x[0], x[1], x[2]})
	}
	return out
}

// onlyBridges, onlyLoops and allCross are the terms of six bridges, of loops beside each other,
// and of loops that all cross, of which each two make the genus greater by 1.
func onlyBridges(k int) [3]int { return [3]int{6 - k, 0, 0} }
func onlyLoops(k int) [3]int   { return [3]int{0, k, 0} }
func allCross(k int) [3]int    { return [3]int{0, k, k / 2} }

// aroundRing are the terms of a ring of six: just all edges together have a nullity.
func aroundRing(k int) [3]int {
	if k == 6 {
		return [3]int{0, 1, 0}
	}
	return [3]int{5 - k, 0, 0}
}

// knownRibbons has all shapes of knownMaps; and a ring with a loop across, a loop with a bridge
// whose edges have other darts, and two handles with a bridge between.
func knownRibbons() []knownRibbon {
	known := func(name string, kinds []int, trees, quasis int, terms [][4]int) knownRibbon {
		return knownRibbon{name, knownAs(name), kinds, trees, quasis, terms}
	}
	return []knownRibbon{
		known("a loop", []int{2}, 1, 1, [][4]int{{1, 0, 0, 0}, {1, 0, 1, 0}}),
		known("a bridge", []int{1}, 1, 1, [][4]int{{1, 1, 0, 0}, {1, 0, 0, 0}}),
		known("two bridges", []int{1, 1}, 1, 1, [][4]int{{1, 2, 0, 0}, {2, 1, 0, 0}, {1, 0, 0, 0}}),
		known("two loops beside each other", []int{2, 2}, 1, 1, [][4]int{{1, 0, 0, 0}, {2, 0, 1, 0}, {1, 0, 2, 0}}),
		known("two loops that cross", []int{2, 2}, 1, 2, [][4]int{{1, 0, 0, 0}, {2, 0, 1, 0}, {1, 0, 2, 1}}),
		known("a ring of two", []int{0, 0}, 2, 2, [][4]int{{1, 1, 0, 0}, {2, 0, 0, 0}, {1, 0, 1, 0}}),
		known("a loop with a bridge", []int{2, 1}, 1, 1, [][4]int{{1, 1, 0, 0}, {1, 0, 0, 0}, {1, 1, 1, 0}, {1, 0, 1, 0}}),
		known("a bridge between loops", []int{2, 1, 2}, 1, 1, [][4]int{{1, 1, 0, 0}, {1, 0, 0, 0}, {2, 1, 1, 0}, {2, 0, 1, 0}, {1, 1, 2, 0}, {1, 0, 2, 0}}),
		known("a triangle", []int{0, 0, 0}, 3, 3, [][4]int{{1, 2, 0, 0}, {3, 1, 0, 0}, {3, 0, 0, 0}, {1, 0, 1, 0}}),
		known("three edges that cross", []int{0, 0, 0}, 3, 4, [][4]int{{1, 1, 0, 0}, {3, 0, 0, 0}, {3, 0, 1, 0}, {1, 0, 2, 1}}),
		known("five loops that all cross", allKinds(2, 5), 1, 16, termsBy(fiveRow, allCross)),
		known("a tetrahedron", allKinds(0, 6), 16, 16, [][4]int{{1, 3, 0, 0}, {6, 2, 0, 0}, {15, 1, 0, 0}, {4, 1, 1, 0}, {16, 0, 0, 0}, {15, 0, 1, 0}, {6, 0, 2, 0}, {1, 0, 3, 0}}),
		known("a star of six", allKinds(1, 6), 1, 1, termsBy(sixRow, onlyBridges)),
		known("six loops beside each other", allKinds(2, 6), 1, 1, termsBy(sixRow, onlyLoops)),
		known("six loops that all cross", allKinds(2, 6), 1, 32, termsBy(sixRow, allCross)),
		known("six bridges in a row", allKinds(1, 6), 1, 1, termsBy(sixRow, onlyBridges)),
		known("a ring of six", allKinds(0, 6), 6, 6, termsBy(sixRow, aroundRing)),
		known("a vertex with three rows of bridges", allKinds(1, 6), 1, 1, termsBy(sixRow, onlyBridges)),
		{"a ring with a loop across", ringAcross(), []int{0, 0, 2}, 2, 3, [][4]int{{1, 1, 0, 0}, {2, 0, 0, 0}, {1, 1, 1, 0}, {3, 0, 1, 0}, {1, 0, 2, 1}}},
		{"a bridge with a loop", bridgeFirst(), []int{1, 2}, 1, 1, [][4]int{{1, 1, 0, 0}, {1, 0, 0, 0}, {1, 1, 1, 0}, {1, 0, 1, 0}}},
		{"two handles with a bridge between", twoHandles(), []int{2, 2, 2, 2, 1}, 1, 4, [][4]int{
			{1, 0, 0, 0}, {4, 0, 1, 0}, {4, 0, 2, 0}, {2, 0, 2, 1}, {4, 0, 3, 1}, {1, 0, 4, 2},
			{1, 1, 0, 0}, {4, 1, 1, 0}, {4, 1, 2, 0}, {2, 1, 2, 1}, {4, 1, 3, 1}, {1, 1, 4, 2},
		}},
	}
}

func ringAcross() impl.Map {
	return mapOf(6, "(0,4,2,5)(1,3)", "(0,1)(2,3)(4,5)")
}

func bridgeFirst() impl.Map {
	return mapOf(4, "(0,1,2)", "(0,3)(1,2)")
}

func twoHandles() impl.Map {
	return mapOf(10, "(0,1,2,3,8)(4,5,6,7,9)", "(0,2)(1,3)(4,6)(5,7)(8,9)")
}

// ribbonMaps returns maps whose choices are all asked: sampleMaps, and the further known ones.
func ribbonMaps() []impl.Map {
	return append(sampleMaps(), ringAcross(), bridgeFirst(), twoHandles())
}

// edgeDarts returns the darts of each edge, the lesser one first.
func edgeDarts(m impl.Map) [][2]int {
	var out [][2]int
	for d, x := range m.Flip {
		if d < x {
			out = append(out, [2]int{d, x})
		}
	}
	return out
}

// choicesOf returns all choices of n edges, each ascending and in memory of its own.
func choicesOf(n int) [][]int {
	out := [][]int{nil}
	for e := range n {
		for _, choice := range slices.Clone(out) {
			out = append(out, append(slices.Clone(choice), e))
		}
	}
	return out
}

// eachChoice calls do with all choices of the edges of a map.
func eachChoice(m impl.Map, do func(choice []int)) {
	for _, choice := range choicesOf(len(m.Flip) / 2) {
		do(choice)
	}
}

// isChoice tells by the definition whether a list is a choice of the edges of a map.
func isChoice(m impl.Map, list []int) bool {
	if !isMap(m) {
		return false
	}
	for i, e := range list {
		if !slices.Contains(stay(len(m.Flip)/2), e) || i > 0 && list[i-1] >= e {
			return false
		}
	}
	return true
}

// restOf returns the edges that are in no choice.
func restOf(m impl.Map, choice []int) []int {
	return slices.DeleteFunc(stay(len(m.Flip)/2), func(e int) bool { return slices.Contains(choice, e) })
}

// withEdge returns a choice with a further edge, ascending.
func withEdge(choice []int, e int) []int {
	out := append(slices.Clone(choice), e)
	slices.Sort(out)
	return out
}

// partsOf counts the parts of a choice: both ends of each chosen edge are in one.
func partsOf(m impl.Map, choice []int) int {
	vertex, vertices := cycleOf(m.Turn)
	darts := edgeDarts(m)
	var pairs [][2]int
	for _, e := range choice {
		pairs = append(pairs, [2]int{vertex[darts[e][0]], vertex[darts[e][1]]})
	}
	return groups(vertices, pairs)
}

// sidesOf counts the sides of a choice: the faces of just the chosen darts, with the Turn in
// which the others are left out, and the vertices without one of them.
func sidesOf(m impl.Map, choice []int) int {
	var chosen []int
	for _, e := range choice {
		darts := edgeDarts(m)[e]
		chosen = append(chosen, darts[0], darts[1])
	}
	next := make([]int, len(chosen))
	for i, d := range chosen {
		to := m.Turn[m.Flip[d]]
		for !slices.Contains(chosen, to) {
			to = m.Turn[to]
		}
		next[i] = slices.Index(chosen, to)
	}
	_, sides := cycleOf(next)
	vertex, vertices := cycleOf(m.Turn)
	touched := make([]bool, vertices)
	for _, d := range chosen {
		touched[vertex[d]] = true
	}
	for _, has := range touched {
		if !has {
			sides++
		}
	}
	return sides
}

// countsOf returns the parts, the sides, the rank, the nullity and the genus of a choice.
func countsOf(m impl.Map, choice []int) []int {
	_, vertices := cycleOf(m.Turn)
	parts, sides := partsOf(m, choice), sidesOf(m, choice)
	rank := vertices - parts
	return []int{parts, sides, rank, len(choice) - rank, (2*parts - vertices + len(choice) - sides) / 2}
}

// kindOf tells by the definition of which kind an edge is.
func kindOf(m impl.Map, e int) int {
	vertex, _ := cycleOf(m.Turn)
	darts := edgeDarts(m)[e]
	if vertex[darts[0]] == vertex[darts[1]] {
		return 2
	}
	return partsOf(m, restOf(m, []int{e})) - 1
}

// leaveOut returns a map without the darts of an edge; over tells what follows one of them
// where the Turn of another dart would lead to it.
func leaveOut(m impl.Map, e int, over func(d int) int) impl.Map {
	darts := edgeDarts(m)[e]
	named := func(d int) int {
		name := d
		for _, out := range darts {
			if d > out {
				name--
			}
		}
		return name
	}
	n := len(m.Turn) - 2
	less := impl.Map{Turn: make([]int, n), Flip: make([]int, n)}
	for d, to := range m.Turn {
		if d == darts[0] || d == darts[1] {
			continue
		}
		for to == darts[0] || to == darts[1] {
			to = over(to)
		}
		less.Turn[named(d)] = named(to)
		less.Flip[named(d)] = named(m.Flip[d])
	}
	return less
}

// deleteOf returns a map without an edge: the next dart of the vertex follows.
func deleteOf(m impl.Map, e int) impl.Map {
	return leaveOut(m, e, func(d int) int { return m.Turn[d] })
}

// contractOf returns a map with an edge drawn together: what the other dart leads to follows.
func contractOf(m impl.Map, e int) impl.Map {
	return leaveOut(m, e, func(d int) int { return m.Turn[m.Flip[d]] })
}

// valueAt adds up the terms of a known map at three numbers.
func valueAt(terms [][4]int, x, y, z int) int {
	sum := 0
	for _, term := range terms {
		sum += term[0] * power(x, term[1]) * power(y, term[2]) * power(z, term[3])
	}
	return sum
}

// termsOf returns a term for each choice of a map.
func termsOf(m impl.Map) [][4]int {
	var terms [][4]int
	eachChoice(m, func(choice []int) {
		counts := countsOf(m, choice)
		terms = append(terms, [4]int{1, counts[0] - 1, counts[3], counts[4]})
	})
	return terms
}

// eachValue calls do with all three numbers at which a map has a value.
func eachValue(do func(x, y, z int)) {
	for x := range 4 {
		for y := range 4 {
			for z := range 4 {
				do(x, y, z)
			}
		}
	}
}

// someValues calls do with all two numbers, and a third one that goes through all of them, too.
func someValues(do func(x, y, z int)) {
	for x := range 4 {
		for y := range 4 {
			do(x, y, (x+2*y)%4)
		}
	}
}

// notChoices returns lists that are no choices of n edges.
func notChoices(n int) [][]int {
	all := stay(n)
	last := n - 1
	out := [][]int{
		// Numbers that are too great or negative, alone and behind or ahead of others.
		{n}, {n + 1}, {-1}, {-2}, {-n}, {2*n - 1}, {2 * n}, {31}, {32}, {63}, {64}, {65}, {128}, {1000},
		{math.MaxInt}, {math.MaxInt - 63}, {math.MinInt}, {math.MinInt + 1}, {math.MaxInt32}, {math.MinInt32},
		{0, n}, {0, 64}, {-1, 0}, {-64, 0}, {-1, n}, {last, n}, {0, math.MaxInt}, {math.MinInt, 0},
		append(slices.Clone(all), n), append([]int{-1}, all...),
		// A number twice.
		{0, 0}, {last, last}, {0, 0, last}, {0, last, last}, append(slices.Clone(all), last), append([]int{0}, all...),
		make([]int, 1000), append(slices.Clone(all), all...),
	}
	if n > 1 {
		// Not ascending.
		opposite := slices.Clone(all)
		slices.Reverse(opposite)
		out = append(out, opposite, []int{1, 0}, []int{last, 0}, []int{0, last, 0}, append(slices.Clone(all[1:]), 0))
	}
	if n > 2 {
		out = append(out, []int{0, 2, 1}, []int{1, 0, 2}, []int{0, last, last - 1}, []int{0, 1, 0, 2})
	}
	return out
}
