package tests

import (
	"math"
	"testing"

	"loop.example/surfacemaps/impl"
)

// oneByOne are the functions that count maps one by one, by name.
func oneByOne() map[string]func(e, g int) int {
	return map[string]func(e, g int) int{
		"RootedCount":   impl.RootedCount,
		"RootedOne":     impl.RootedOne,
		"RootlessCount": impl.RootlessCount,
		"RootlessRoots": impl.RootlessRoots,
	}
}

// isNone reports an error unless a count is -1.
func isNone(t *testing.T, what string, got, e, with int) {
	t.Helper()
	if got != -1 {
		t.Errorf("%s(%d, %d) = %d", what, e, with, got)
	}
}

func TestNoCount(t *testing.T) {
	for name, count := range oneByOne() {
		for _, e := range outOf(1, 3) {
			for _, g := range append(belowZero(), 0, 1, 2, 5, 6, 1000, math.MaxInt) {
				isNone(t, name, count(e, g), e, g)
			}
		}
		for _, g := range belowZero() {
			for e := 1; e <= 3; e++ {
				isNone(t, name, count(e, g), e, g)
			}
		}
	}
}

// TestGreatGenus asks for genera that no map has, which are in range all the same.
func TestGreatGenus(t *testing.T) {
	for _, g := range []int{2, 6, 1000, math.MaxInt32, math.MaxInt - 1, math.MaxInt} {
		for e := 1; e <= 3; e++ {
			for name, count := range oneByOne() {
				if got := count(e, g); got != 0 {
					t.Errorf("%s(%d, %d) = %d", name, e, g, got)
				}
			}
		}
		for e := 1; e <= 2; e++ {
			if maps, ok := impl.RootedList(e, g); !ok || len(maps) != 0 {
				t.Errorf("RootedList(%d, %d) = %v, %v", e, g, maps, ok)
			}
		}
	}
}

func TestNoList(t *testing.T) {
	check := func(e, g int) {
		t.Helper()
		if maps, ok := impl.RootedList(e, g); ok || len(maps) != 0 {
			t.Errorf("RootedList(%d, %d) = %v, %v", e, g, maps, ok)
		}
	}
	for _, e := range outOf(1, 2) {
		for _, g := range append(belowZero(), 0, 1, 2, 1000, math.MaxInt) {
			check(e, g)
		}
	}
	for _, g := range belowZero() {
		for e := 1; e <= 2; e++ {
			check(e, g)
		}
	}
}

// noneOutside asks a count of two numbers with one of them, or both, out of its range.
func noneOutside(t *testing.T, what string, count func(a, b int) int, first, second [2]int) {
	t.Helper()
	inFirst, outFirst := within(first[0], first[1]), outOf(first[0], first[1])
	inSecond, outSecond := within(second[0], second[1]), outOf(second[0], second[1])
	for _, a := range outFirst {
		for _, b := range append(outSecond, inSecond...) {
			isNone(t, what, count(a, b), a, b)
		}
	}
	for _, a := range inFirst {
		for _, b := range outSecond {
			isNone(t, what, count(a, b), a, b)
		}
	}
}

func TestNoRun(t *testing.T) {
	noneOutside(t, "RootedRun", impl.RootedRun, [2]int{0, 9}, [2]int{0, 5})
}

func TestNoFace(t *testing.T) {
	noneOutside(t, "RootedFace", impl.RootedFace, [2]int{0, 9}, [2]int{0, 18})
}

func TestNoFormula(t *testing.T) {
	for _, e := range outOf(0, 9) {
		if got := impl.RootedPlane(e); got != -1 {
			t.Errorf("RootedPlane(%d) = %d", e, got)
		}
	}
	for _, e := range outOf(0, 12) {
		if got := impl.RootedTrees(e); got != -1 {
			t.Errorf("RootedTrees(%d) = %d", e, got)
		}
	}
}

// TestRanges asks for the least and the greatest numbers of each range, which all give a count.
func TestRanges(t *testing.T) {
	for name, count := range oneByOne() {
		for e := 1; e <= 3; e++ {
			for g := range 8 {
				if count(e, g) < 0 {
					t.Errorf("%s(%d, %d) = %d", name, e, g, count(e, g))
				}
			}
		}
	}
	for _, c := range [][3]int{
		{impl.RootedRun(0, 0), 1}, {impl.RootedRun(0, 1), 0}, {impl.RootedRun(0, 5), 0},
		{impl.RootedRun(9, 0), 17399772}, {impl.RootedRun(9, 4), 24635754}, {impl.RootedRun(9, 5), 0},
		{impl.RootedPlane(0), 1}, {impl.RootedPlane(9), 17399772},
		{impl.RootedFace(0, 0), 1}, {impl.RootedFace(0, 18), 0}, {impl.RootedFace(9, 0), 0}, {impl.RootedFace(9, 18), 4862},
		{impl.RootedTrees(0), 1}, {impl.RootedTrees(12), 208012},
	} {
		if c[0] != c[1] {
			t.Errorf("a count at the end of a range is %d instead of %d", c[0], c[1])
		}
	}
}
