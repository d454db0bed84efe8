package tests

import (
	"cmp"
	"slices"
	"testing"

	"loop.example/surfacemaps/impl"
)

// mapOf returns the map of a number of darts with two texts, or the zero value if one is no text.
func mapOf(n int, turn, flip string) impl.Map {
	t, fine := impl.PermFrom(n, turn)
	f, ok := impl.PermFrom(n, flip)
	if !ok || !fine {
		return impl.Map{}
	}
	return impl.Map{Turn: t, Flip: f}
}

// knownMap is a map with what was worked out for it by hand.
type knownMap struct {
	name    string
	m       impl.Map
	faces   string
	counts  []int
	genus   int
	degrees []int
	turns   int
}

const edges6 = "(0,1)(2,3)(4,5)(6,7)(8,9)(10,11)"

// knownMaps has the smallest maps, loops, bridges, and maps of PointsMax darts.
func knownMaps() []knownMap {
	return []knownMap{
		{"a loop", mapOf(2, "(0,1)", "(0,1)"), "()", []int{1, 1, 2}, 0, []int{2}, 2},
		{"a bridge", mapOf(2, "()", "(0,1)"), "(0,1)", []int{2, 1, 1}, 0, []int{1, 1}, 2},
		{"two bridges", mapOf(4, "(1,2)", "(0,1)(2,3)"), "(0,2,3,1)", []int{3, 2, 1}, 0, []int{2, 1, 1}, 2},
		{"two loops beside each other", mapOf(4, "(0,1,2,3)", "(0,1)(2,3)"), "(0,2)", []int{1, 2, 3}, 0, []int{4}, 2},
		{"two loops that cross", mapOf(4, "(0,1,2,3)", "(0,2)(1,3)"), "(0,3,2,1)", []int{1, 2, 1}, 1, []int{4}, 4},
		{"a ring of two", mapOf(4, "(0,3)(1,2)", "(0,1)(2,3)"), "(0,2)(1,3)", []int{2, 2, 2}, 0, []int{2, 2}, 4},
		{"a loop with a bridge", mapOf(4, "(0,1,2)", "(0,1)(2,3)"), "(0,2,3)", []int{2, 2, 2}, 0, []int{3, 1}, 1},
		{"a bridge between loops", mapOf(6, "(0,1,2)(3,4,5)", "(0,1)(2,3)(4,5)"), "(0,2,4,3)", []int{2, 3, 3}, 0, []int{3, 3}, 2},
		{"a triangle", mapOf(6, "(0,5)(1,2)(3,4)", "(0,1)(2,3)(4,5)"), "(0,2,4)(1,5,3)", []int{3, 3, 2}, 0, []int{2, 2, 2}, 6},
		{"three edges that cross", mapOf(6, "(0,2,4)(1,3,5)", "(0,1)(2,3)(4,5)"), "(0,3,4,1,2,5)", []int{2, 3, 1}, 1, []int{3, 3}, 6},
		{"five loops that all cross", mapOf(10, "(0,1,2,3,4,5,6,7,8,9)", "(0,5)(1,6)(2,7)(3,8)(4,9)"), "(0,6,2,8,4)(1,7,3,9,5)", []int{1, 5, 2}, 2, []int{10}, 10},
		{"a tetrahedron", mapOf(12, "(0,2,4)(1,11,6)(3,7,8)(5,9,10)", edges6), "(0,11,5)(1,2,7)(3,4,9)(6,8,10)", []int{4, 6, 4}, 0, []int{3, 3, 3, 3}, 12},
		{"a star of six", mapOf(12, "(0,2,4,6,8,10)", edges6), "(0,1,2,3,4,5,6,7,8,9,10,11)", []int{7, 6, 1}, 0, []int{6, 1, 1, 1, 1, 1, 1}, 6},
		{"six loops beside each other", mapOf(12, "(0,1,2,3,4,5,6,7,8,9,10,11)", edges6), "(0,2,4,6,8,10)", []int{1, 6, 7}, 0, []int{12}, 6},
		{"six loops that all cross", mapOf(12, "(0,1,2,3,4,5,6,7,8,9,10,11)", "(0,6)(1,7)(2,8)(3,9)(4,10)(5,11)"), "(0,7,2,9,4,11,6,1,8,3,10,5)", []int{1, 6, 1}, 3, []int{12}, 12},
		{"six bridges in a row", mapOf(12, "(1,2)(3,4)(5,6)(7,8)(9,10)", edges6), "(0,2,4,6,8,10,11,9,7,5,3,1)", []int{7, 6, 1}, 0, []int{2, 2, 2, 2, 2, 1, 1}, 2},
		{"a ring of six", mapOf(12, "(0,11)(1,2)(3,4)(5,6)(7,8)(9,10)", edges6), "(0,2,4,6,8,10)(1,11,9,7,5,3)", []int{6, 6, 2}, 0, []int{2, 2, 2, 2, 2, 2}, 12},
		{"a vertex with three rows of bridges", mapOf(12, "(0,2,6)(3,4)(7,8)(9,10)", edges6), "(0,1,2,4,5,3,6,8,10,11,9,7)", []int{7, 6, 1}, 0, []int{3, 2, 2, 2, 1, 1, 1}, 1},
	}
}

// sampleMaps returns all maps of 1 and 2 edges, those of 3 edges with some flips, and maps of more edges.
func sampleMaps() []impl.Map {
	var out []impl.Map
	for _, flip := range [][]int{
		{1, 0},
		{1, 0, 3, 2}, {2, 3, 0, 1}, {3, 2, 1, 0},
		{1, 0, 3, 2, 5, 4}, {5, 4, 3, 2, 1, 0}, {3, 5, 4, 0, 2, 1},
	} {
		for _, turn := range allPerms(len(flip)) {
			if m := (impl.Map{Turn: turn, Flip: slices.Clone(flip)}); isMap(m) {
				out = append(out, m)
			}
		}
	}
	return append(out, bigMaps()...)
}

// bigMaps returns maps of 4 to 6 edges: the known ones and what big permutations make.
func bigMaps() []impl.Map {
	var out []impl.Map
	for _, k := range knownMaps() {
		if len(k.m.Turn) > 6 {
			out = append(out, k.m)
		}
	}
	for _, flip := range [][]int{
		{1, 0, 3, 2, 5, 4, 7, 6}, {4, 5, 6, 7, 0, 1, 2, 3},
		{9, 8, 7, 6, 5, 4, 3, 2, 1, 0}, {2, 3, 0, 1, 7, 6, 5, 4, 9, 8},
		{1, 0, 3, 2, 5, 4, 7, 6, 9, 8, 11, 10}, {11, 10, 9, 8, 7, 6, 5, 4, 3, 2, 1, 0}, {6, 9, 3, 2, 8, 11, 0, 10, 4, 1, 7, 5},
	} {
		for _, a := range bigPerms() {
			for _, b := range append(bigPerms(), somePerms(len(flip))...) {
				if m := (impl.Map{Turn: thenPerm(a, b), Flip: slices.Clone(flip)}); isMap(m) {
					out = append(out, m)
				}
			}
		}
	}
	return out
}

// fewMaps returns maps of which all pairs are asked.
func fewMaps() []impl.Map {
	var out []impl.Map
	for i, m := range sampleMaps() {
		if len(m.Turn) < 6 || i%13 == 0 {
			out = append(out, m)
		}
	}
	for _, k := range knownMaps() {
		out = append(out, k.m)
	}
	return out
}

// somePerms returns permutations of n points by which maps are renamed.
func somePerms(n int) [][]int {
	turned := append(stay(n)[1:], 0)
	opposite := stay(n)
	slices.Reverse(opposite)
	shuffled := stay(n)
	for i := range shuffled {
		k := (i*i + 3*i + 1) % n
		shuffled[i], shuffled[k] = shuffled[k], shuffled[i]
	}
	return [][]int{stay(n), turned, opposite, shuffled}
}

// thenPerm does the first list and then the second one, if they are of as many points.
func thenPerm(a, b []int) []int {
	if len(a) != len(b) {
		return nil
	}
	out := make([]int, len(a))
	for i, x := range a {
		out[i] = b[x]
	}
	return out
}

// isMap tells by the definition whether both lists are a map.
func isMap(m impl.Map) bool {
	if !isPerm(m.Turn) || !isPerm(m.Flip) || len(m.Turn) != len(m.Flip) {
		return false
	}
	for d, x := range m.Flip {
		if x == d || m.Flip[x] != d || leastReached(m.Turn, m.Flip, d) != 0 {
			return false
		}
	}
	return true
}

// cycleOf numbers the cycles of a permutation: it returns for each point that of its
// cycle, and how many there are.
func cycleOf(p []int) ([]int, int) {
	number := slices.Repeat([]int{-1}, len(p))
	many := 0
	for i := range p {
		for x := i; number[x] < 0; x = p[x] {
			number[x] = many
			if p[x] == i {
				many++
			}
		}
	}
	return number, many
}

// renames tells whether a permutation of darts makes the map b of the map a.
func renames(a, b impl.Map, by []int) bool {
	for d := range by {
		if b.Turn[by[d]] != by[a.Turn[d]] || b.Flip[by[d]] != by[a.Flip[d]] {
			return false
		}
	}
	return true
}

// renaming returns the permutation that takes a dart to another one and makes the map b
// of the map a, or nil if there is none: it takes over what Turn and Flip ask for until nothing is new.
func renaming(a, b impl.Map, from, to int) []int {
	if len(a.Turn) != len(b.Turn) {
		return nil
	}
	by := slices.Repeat([]int{-1}, len(a.Turn))
	by[from] = to
	for range a.Turn {
		for d := range by {
			if by[d] >= 0 {
				by[a.Turn[d]] = b.Turn[by[d]]
				by[a.Flip[d]] = b.Flip[by[d]]
			}
		}
	}
	if !impl.PermValid(by) || !renames(a, b, by) {
		return nil
	}
	return by
}

// renamings returns how many permutations make the map b of the map a.
func renamings(a, b impl.Map) int {
	many := 0
	for d := range b.Turn {
		if renaming(a, b, 0, d) != nil {
			many++
		}
	}
	return many
}

// compareMaps tells which of two maps comes first by Turn and then by Flip.
func compareMaps(a, b impl.Map) int {
	return cmp.Or(slices.Compare(a.Turn, b.Turn), slices.Compare(a.Flip, b.Flip))
}

// sameMap reports an error if two maps differ in a number.
func sameMap(t *testing.T, what string, got, want impl.Map) {
	t.Helper()
	if compareMaps(got, want) != 0 {
		t.Errorf("%s: %v instead of %v", what, got, want)
	}
}

// roomyMap returns a map whose lists have spare capacity, and the whole memory behind both.
func roomyMap(m impl.Map) (impl.Map, [2][]int) {
	turn, wholeTurn := roomy(m.Turn)
	flip, wholeFlip := roomy(m.Flip)
	return impl.Map{Turn: turn, Flip: flip}, [2][]int{wholeTurn, wholeFlip}
}
