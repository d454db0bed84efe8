package tests

import (
	"math"
	"slices"

	"loop.example/surfacemaps/impl"
)

// gluingRows has the numbers of gluings of each genus, for 0 to 9 pairs of sides.
func gluingRows() [][]int {
	return [][]int{
		{1},
		{1},
		{2, 1},
		{5, 10},
		{14, 70, 21},
		{42, 420, 483},
		{132, 2310, 6468, 1485},
		{429, 12012, 66066, 56628},
		{1430, 60060, 570570, 1169740, 225225},
		{4862, 291720, 4390386, 17454580, 12317877},
	}
}

// knownGluing is a gluing with what was worked out for it by hand.
type knownGluing struct {
	name    string
	p       []int
	corners int
	genus   int
	chord   int
	turned  []int
	turn    string
}

// knownGluings has the polygon of two sides, those of four sides, and some up to SidesMax sides.
func knownGluings() []knownGluing {
	return []knownGluing{
		{"two sides", []int{1, 0}, 2, 0, 0, []int{1, 0}, "()"},
		{"two neighbors twice", []int{1, 0, 3, 2}, 3, 0, 0, []int{3, 2, 1, 0}, "(0,2)"},
		{"two pairs that cross", []int{2, 3, 0, 1}, 1, 1, 1, []int{2, 3, 0, 1}, "(0,3,2,1)"},
		{"a pair in another one", []int{3, 2, 1, 0}, 3, 0, 0, []int{1, 0, 3, 2}, "(1,3)"},
		{"opposite sides of six", []int{3, 4, 5, 0, 1, 2}, 2, 1, 3, []int{3, 4, 5, 0, 1, 2}, "(0,4,2)(1,5,3)"},
		{"a pair that crosses two", []int{3, 5, 4, 0, 2, 1}, 2, 1, 2, []int{2, 4, 0, 5, 1, 3}, "(0,4,3,1)(2,5)"},
		{"two that cross beside one", []int{2, 3, 0, 1, 5, 4}, 2, 1, 1, []int{5, 3, 4, 1, 2, 0}, "(0,3,2,1,4)"},
		{"two that cross, twice", []int{2, 3, 0, 1, 6, 7, 4, 5}, 1, 2, 2, []int{6, 3, 4, 1, 2, 7, 0, 5}, "(0,3,2,1,4,7,6,5)"},
		{"opposite sides of eight", []int{4, 5, 6, 7, 0, 1, 2, 3}, 1, 2, 6, []int{4, 5, 6, 7, 0, 1, 2, 3}, "(0,5,2,7,4,1,6,3)"},
		{"neighbors of ten", []int{1, 0, 3, 2, 5, 4, 7, 6, 9, 8}, 6, 0, 0, []int{9, 2, 1, 4, 3, 6, 5, 8, 7, 0}, "(0,2,4,6,8)"},
		{"each pair in another one", []int{9, 8, 7, 6, 5, 4, 3, 2, 1, 0}, 6, 0, 0, []int{1, 0, 9, 8, 7, 6, 5, 4, 3, 2}, "(1,9)(2,8)(3,7)(4,6)"},
		{"opposite sides of ten", []int{5, 6, 7, 8, 9, 0, 1, 2, 3, 4}, 2, 2, 10, []int{5, 6, 7, 8, 9, 0, 1, 2, 3, 4}, "(0,6,2,8,4)(1,7,3,9,5)"},
	}
}

// allGluings returns all gluings of a polygon with 2 n sides, sorted, each in memory of its
// own: each one is one with two sides less, and the last side glued to a new one ahead of it.
func allGluings(n int) [][]int {
	if n == 0 {
		return [][]int{{}}
	}
	var out [][]int
	for _, fewer := range allGluings(n - 1) {
		for at := range 2*n - 1 {
			var p []int
			for _, partner := range fewer {
				if partner >= at {
					partner++
				}
				p = append(p, partner)
			}
			p = append(slices.Insert(p, at, 2*n-1), at)
			out = append(out, p)
		}
	}
	slices.SortFunc(out, slices.Compare[[]int])
	return out
}

// sampleGluings returns all gluings there are, of 2 to SidesMax sides.
func sampleGluings() [][]int {
	var out [][]int
	for n := 1; n <= 5; n++ {
		out = append(out, allGluings(n)...)
	}
	return out
}

// isGluing tells by the definition whether a list is a gluing.
func isGluing(p []int) bool {
	if len(p)%2 != 0 || len(p) < 2 || len(p) > 10 {
		return false
	}
	for i, x := range p {
		if x == i || x < 0 || x >= len(p) || p[x] != i {
			return false
		}
	}
	return true
}

// cornersOf counts the corners of the glued surface: each side has its beginning glued to
// the end of its partner, and its end to the beginning of this.
func cornersOf(p []int) int {
	var pairs [][2]int
	for i, x := range p {
		pairs = append(pairs, [2]int{x, (i + 1) % len(p)})
	}
	return groups(len(p), pairs)
}

// crossed counts the pairs that cross, by each four sides in order.
func crossed(p []int) int {
	many := 0
	for d := range p {
		for c := range d {
			for b := range c {
				for a := range b {
					if p[a] == c && p[b] == d {
						many++
					}
				}
			}
		}
	}
	return many
}

// turnedOnce adds 1 to each number of a gluing and to its place, the last one becoming 0.
func turnedOnce(p []int) []int {
	out := make([]int, len(p))
	for i, x := range p {
		out[(i+1)%len(p)] = (x + 1) % len(p)
	}
	return out
}

// product returns the product of all odd numbers less than 2 n.
func product(n int) int {
	out := 1
	for odd := 1; odd < 2*n; odd += 2 {
		out *= odd
	}
	return out
}

// sumOfRuns returns GluingRun of all genera together.
func sumOfRuns(n int) int {
	sum := 0
	for g := range 6 {
		sum += impl.GluingRun(n, g)
	}
	return sum
}

// power returns a number to the k.
func power(x, k int) int {
	out := 1
	for range k {
		out *= x
	}
	return out
}

// notGluings returns lists that are no gluings.
func notGluings() [][]int {
	out := [][]int{
		nil,
		{},
		// Odd lengths.
		{0}, {1}, {-1},
		{1, 0, 2}, {2, 1, 0}, {1, 2, 0}, {1, 0, 3}, {1, 0, -1},
		{1, 0, 3, 2, 4}, {4, 3, 2, 1, 0},
		{1, 0, 3, 2, 5, 4, 6}, {1, 0, 3, 2, 5, 4, 7, 6, 8}, {8, 7, 6, 5, 4, 3, 2, 1, 0},
		// A side that is its own partner.
		{0, 1}, {0, 1, 2, 3}, {1, 0, 2, 3}, {0, 3, 2, 1}, {0, 2, 1, 3},
		{1, 0, 3, 2, 5, 4, 7, 6, 8, 9}, stay(10),
		// A side whose partner has another one.
		{1, 2, 3, 0}, {1, 0, 1, 0}, {1, 0, 0, 1}, {1, 1}, {0, 0}, {2, 3, 0, 0}, {3, 3, 3, 0},
		{1, 2, 0, 4, 5, 3}, {1, 0, 3, 4, 5, 2}, {1, 0, 3, 2, 5, 4, 7, 8, 9, 6},
		// Numbers that are no sides.
		{1, 2}, {2, 1}, {-1, 0}, {1, -1}, {2, 3}, {-2, -1}, {1, 0, 4, 3}, {1, 0, -1, -2}, {4, 3, 2, 1},
		{math.MaxInt, math.MinInt}, {1, math.MinInt}, {math.MaxInt, 0}, {1, 0, math.MaxInt, 2},
		{1, 0, 3, 2, 5, 4, 7, 6, 9, 10}, {10, 0, 3, 2, 5, 4, 7, 6, 9, 8},
		// More sides than SidesMax.
		{1, 0, 3, 2, 5, 4, 7, 6, 9, 8, 10},
		{1, 0, 3, 2, 5, 4, 7, 6, 9, 8, 11, 10},
		{11, 10, 9, 8, 7, 6, 5, 4, 3, 2, 1, 0},
		{6, 7, 8, 9, 10, 11, 0, 1, 2, 3, 4, 5},
		{1, 0, 3, 2, 5, 4, 7, 6, 9, 8, 11, 10, 13, 12},
		stay(1000),
	}
	long := stay(1000)
	slices.Reverse(long)
	return append(out, long)
}
