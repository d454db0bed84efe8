package tests

import (
	"slices"
	"testing"

	"loop.example/surfacemaps/impl"
)

// TestPartsValid holds PartsValid against the definition: for all short lists, for all lists
// of few numbers, and for partitions in which a number is another one.
func TestPartsValid(t *testing.T) {
	check := func(p []int) {
		t.Helper()
		if got, want := impl.PartsValid(p), isPartition(p); got != want {
			t.Errorf("PartsValid(%v) = %v", p, got)
		}
	}
	var grow func(p []int, most, least, greatest int)
	grow = func(p []int, most, least, greatest int) {
		check(p)
		for x := least; x <= greatest && len(p) < most; x++ {
			grow(append(p, x), most, least, greatest)
		}
	}
	grow(nil, 4, -1, 8)
	grow(nil, 8, 0, 2)
	for _, p := range allParts() {
		if !impl.PartsValid(p) {
			t.Errorf("PartsValid does not hold for %v", p)
		}
		for i, was := range p {
			for x := -1; x <= 8; x++ {
				p[i] = x
				check(p)
			}
			p[i] = was
		}
		check(append(slices.Clone(p), 1))
		check(append(slices.Clone(p), 0))
		check(p[:len(p)-1])
		check(p[1:])
	}
	for _, p := range notParts() {
		if impl.PartsValid(p) {
			t.Errorf("PartsValid holds for %v", p)
		}
	}
	if impl.SizeMax != 6 || impl.TypesMax != 6 {
		t.Errorf("SizeMax is %d, TypesMax %d", impl.SizeMax, impl.TypesMax)
	}
}

func TestNoPartsAll(t *testing.T) {
	for _, n := range outOf(1, 6) {
		if all, ok := impl.PartsAll(n); ok || len(all) != 0 {
			t.Errorf("PartsAll(%d) = %v, %v", n, all, ok)
		}
	}
}

func TestNoParts(t *testing.T) {
	for _, p := range notParts() {
		if got := impl.ClassSize(p); got != -1 {
			t.Errorf("ClassSize(%v) = %d", p, got)
		}
		if got := impl.CharDegree(p); got != -1 {
			t.Errorf("CharDegree(%v) = %d", p, got)
		}
		fails(t, "PartsConj")(impl.PartsConj(p))
		fails(t, "ClassFirst")(impl.ClassFirst(p))
	}
}

// failTwo reports an error unless the functions of two partitions fail.
func failTwo(t *testing.T, a, b []int) {
	t.Helper()
	if value, ok := impl.CharValue(a, b); ok || value != 0 {
		t.Errorf("CharValue(%v, %v) = %d, %v", a, b, value, ok)
	}
	if got := impl.CutJoin(a, b); got != -1 {
		t.Errorf("CutJoin(%v, %v) = %d", a, b, got)
	}
}

// TestNoTwoParts asks for two lists of which one or both are no partitions, or whose sums differ.
func TestNoTwoParts(t *testing.T) {
	for _, bad := range notParts() {
		for _, good := range allParts() {
			failTwo(t, bad, good)
			failTwo(t, good, bad)
		}
		for _, other := range notParts() {
			failTwo(t, bad, other)
		}
	}
	for _, a := range allParts() {
		for _, b := range allParts() {
			if sumOf(a) != sumOf(b) {
				failTwo(t, a, b)
			}
		}
	}
}

func TestNoTypes(t *testing.T) {
	for _, types := range notTypes() {
		for name, count := range typeCounts() {
			if got := count(types); got != -1 {
				t.Errorf("%s(%v) = %d", name, types, got)
			}
		}
	}
}

// TestOneByOneRange asks for factorizations with just enough points and types, and with more.
func TestOneByOneRange(t *testing.T) {
	for n := 1; n <= 6; n++ {
		for many := 1; many <= 6; many++ {
			types := slices.Repeat([][]int{ones(n)}, many)
			each, whole := -1, -1
			if n <= 4 && many <= 3 {
				each, whole = 1, 0
				if n == 1 {
					whole = 1
				}
			}
			got := []int{impl.FactorCount(types), impl.FactorEach(types), impl.FactorWhole(types)}
			sameList(t, "the factorizations that move nothing", got, []int{1, each, whole})
		}
	}
}
