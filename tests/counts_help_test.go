package tests

import (
	"math"
	"slices"

	"loop.example/surfacemaps/impl"
)

// rootedRows has the numbers of rooted maps of each genus, for 0 to 9 edges.
func rootedRows() [][]int {
	return [][]int{
		{1},
		{2},
		{9, 1},
		{54, 20},
		{378, 307, 21},
		{2916, 4280, 966},
		{24057, 56914, 27954, 1485},
		{208494, 736568, 650076, 113256},
		{1876446, 9370183, 13271982, 5008230, 225225},
		{17399772, 117822512, 248371380, 167808024, 24635754},
	}
}

// atOrZero returns a number of a list, or 0 behind its end.
func atOrZero(list []int, at int) int {
	if at < len(list) {
		return list[at]
	}
	return 0
}

// growForms calls do with each map of n darts that is its own form from 0, by the words of
// the document: each dart, in order, gives the next free name to its Turn and then to its Flip.
func growForms(n int, do func(m impl.Map)) {
	m := impl.Map{Turn: slices.Repeat([]int{-1}, n), Flip: slices.Repeat([]int{-1}, n)}
	var turnOf, flipOf func(d, named int)
	turnOf = func(d, named int) {
		if d == n {
			do(m)
			return
		}
		if d == named {
			return // The darts before this one hang together without it.
		}
		for x := range min(named+1, n) {
			if !slices.Contains(m.Turn, x) {
				m.Turn[d] = x
				flipOf(d, max(named, x+1))
				m.Turn[d] = -1
			}
		}
	}
	flipOf = func(d, named int) {
		if m.Flip[d] >= 0 {
			turnOf(d+1, named)
			return
		}
		for x := range min(named+1, n) {
			if x != d && m.Flip[x] < 0 {
				m.Flip[d], m.Flip[x] = x, d
				turnOf(d+1, max(named, x+1))
				m.Flip[d], m.Flip[x] = -1, -1
			}
		}
	}
	turnOf(0, 1)
}

// facesOf numbers the faces of a map: for each dart that of its face, and how many there are.
func facesOf(m impl.Map) ([]int, int) {
	return cycleOf(thenPerm(m.Flip, m.Turn))
}

// genusOf returns the genus of a map by its definition.
func genusOf(m impl.Map) int {
	_, vertices := cycleOf(m.Turn)
	_, faces := facesOf(m)
	return (2 - vertices + len(m.Flip)/2 - faces) / 2
}

// allRooted returns the forms of all rooted maps with e edges and a genus, sorted.
func allRooted(e, g int) []impl.Map {
	var out []impl.Map
	growForms(2*e, func(m impl.Map) {
		if genusOf(m) == g {
			out = append(out, impl.Map{Turn: slices.Clone(m.Turn), Flip: slices.Clone(m.Flip)})
		}
	})
	slices.SortFunc(out, compareMaps)
	return out
}

// allRootless returns one of each maps that are not the same with e edges and a genus.
func allRootless(e, g int) []impl.Map {
	var out []impl.Map
	for _, m := range allRooted(e, g) {
		if !slices.ContainsFunc(out, func(other impl.Map) bool { return renamings(m, other) > 0 }) {
			out = append(out, m)
		}
	}
	return out
}

// belowZero are genera that are negative.
func belowZero() []int {
	return []int{-1, -2, -3, -1000, math.MinInt + 1, math.MinInt}
}

// outOf returns numbers that are out of the range from least to most, on both sides.
func outOf(least, most int) []int {
	return []int{least - 1, least - 2, least - 9, -1000, math.MinInt32, math.MinInt + 1, math.MinInt,
		most + 1, most + 2, most + 9, 1000, math.MaxInt32, math.MaxInt - 1, math.MaxInt}
}

// within returns the numbers of a range.
func within(least, most int) []int {
	var out []int
	for x := least; x <= most; x++ {
		out = append(out, x)
	}
	return out
}
