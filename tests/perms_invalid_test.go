package tests

import (
	"math"
	"strings"
	"testing"

	"loop.example/surfacemaps/impl"
)

// TestPermValid holds PermValid against all lists of up to 4 small numbers.
func TestPermValid(t *testing.T) {
	lists := [][]int{{}}
	for range 5 {
		var next [][]int
		for _, p := range lists {
			count := map[int]int{}
			want := len(p) > 0
			for _, x := range p {
				count[x]++
				want = want && x >= 0 && x < len(p) && count[x] == 1
			}
			if got := impl.PermValid(p); got != want {
				t.Errorf("PermValid(%v) = %v", p, got)
			}
			for x := -1; x <= 4; x++ {
				next = append(next, append(p[:len(p):len(p)], x))
			}
		}
		lists = next
	}
	for _, p := range samplePerms() {
		if !impl.PermValid(p) {
			t.Errorf("PermValid does not hold for %v", p)
		}
	}
	for _, p := range notPerms() {
		if impl.PermValid(p) {
			t.Errorf("PermValid holds for %v", p)
		}
	}
	if impl.PointsMax != 12 || !impl.PermValid(stay(12)) || impl.PermValid(stay(13)) {
		t.Error("PermValid does not keep to PointsMax")
	}
}

// fails reports an error unless a call failed with an empty list.
func fails(t *testing.T, what string) func(p []int, ok bool) {
	return func(p []int, ok bool) {
		t.Helper()
		if ok || len(p) != 0 {
			t.Errorf("%s returned %v, %v", what, p, ok)
		}
	}
}

func TestNoPermutation(t *testing.T) {
	for _, p := range notPerms() {
		fails(t, "PermBack")(impl.PermBack(p))
		fails(t, "PermType")(impl.PermType(p))
		for _, k := range []int{-1, 0, 1, 1000, 1001, math.MinInt} {
			fails(t, "PermPower")(impl.PermPower(p, k))
		}
		if c, ok := impl.PermCycles(p); ok || len(c) != 0 {
			t.Errorf("PermCycles(%v) = %v, %v", p, c, ok)
		}
		if got := impl.PermOrder(p); got != -1 {
			t.Errorf("PermOrder(%v) = %d", p, got)
		}
		if got := impl.PermSign(p); got != 0 {
			t.Errorf("PermSign(%v) = %d", p, got)
		}
		if got := impl.PermText(p); got != "" {
			t.Errorf("PermText(%v) = %q", p, got)
		}
	}
}

// failPair asks all three functions of two permutations.
func failPair(t *testing.T, a, b []int) {
	t.Helper()
	fails(t, "PermMul")(impl.PermMul(a, b))
	fails(t, "PermConj")(impl.PermConj(a, b))
	fails(t, "PermOrbits")(impl.PermOrbits(a, b))
}

func TestNoPair(t *testing.T) {
	for _, bad := range notPerms() {
		for _, good := range [][]int{{0}, {1, 0}, {2, 0, 1}, stay(len(bad)), bigPerms()[1]} {
			failPair(t, bad, good)
			failPair(t, good, bad)
		}
		for _, other := range notPerms() {
			failPair(t, bad, other)
		}
	}
	for n := 1; n <= impl.PointsMax; n++ {
		for k := 1; k <= impl.PointsMax; k++ {
			if n != k {
				failPair(t, stay(n), stay(k))
			}
		}
	}
}

func TestPowerRange(t *testing.T) {
	for _, p := range [][]int{{0}, {1, 0}, {1, 2, 0, 4, 3}, stay(12)} {
		for _, k := range []int{1001, -1001, 2000, -2000, math.MaxInt, math.MinInt} {
			fails(t, "PermPower")(impl.PermPower(p, k))
		}
	}
}

func TestFromRange(t *testing.T) {
	for _, s := range []string{"", "()", "(0,1)", "(0,1)(2,3)"} {
		for _, n := range []int{0, -1, -12, 13, 100, math.MaxInt, math.MinInt} {
			fails(t, "PermFrom")(impl.PermFrom(n, s))
		}
	}
	// A point that is in the text must be one of the n.
	fails(t, "PermFrom")(impl.PermFrom(1, "(0,1)"))
	fails(t, "PermFrom")(impl.PermFrom(3, "(1,3)"))
	fails(t, "PermFrom")(impl.PermFrom(11, "(0,11)"))
	fails(t, "PermFrom")(impl.PermFrom(12, "(0,12)"))
}

func TestFromMalformed(t *testing.T) {
	for _, s := range []string{
		// Malformed ones.
		"", " ", "(", ")", ")(", "(()", "())", "0,1", "(0,1", "0,1)", "(0 1)", "[0,1]", "(0;1)", "(0.1)",
		"(,)", "(0,)", "(,1)", "(0,,1)", "(a,b)", "(0,x)", "(-1,0)", "(0,1)(", ")(0,1)", "(0,1)x", "x(0,1)",
		"(0,1))(2,3)", "((0,1)(2,3))", "(0,1)((2,3)", "(0,1),(2,3)", "(0,1) (2,3)", "(0,1)2,3)", "(0,1)(2,3",
		"(0,1)\n", "\n(0,1)", "(0,1)\x00", "(0,\x001)", "(\xff,1)", "(0,\u0661)", "(0,99999999999999999999)",
		"(0,18446744073709551617)", "(0x0,1)", "(1e0,2)", "(0_0,1)", "nil", "{}",
		// Ones that tell a permutation, but not as the document writes it.
		"()()", "()(0,1)", "(0,1)()", "(0)", "(1)", "(0)(1)", "(0,1)(2)", "(0)(1,2)", "(1,0)", "(2,3)(0,1)",
		"(1,2,0)", "(2,0,1)", "(0,1)(3,2)", "(3,4)(0,2,1)", "(00,1)", "(0,01)", "(+0,1)", "(0,+1)", "(-0,1)",
		"( 0,1)", "(0,1 )", "(0, 1)", " ()", "() ", "( )",
		// Points that are there twice.
		"(0,0)", "(0,1,0)", "(0,1,0,1)", "(0,1)(0,1)", "(0,1)(1,2)", "(0,1)(0,2)", "(0,1,2)(0,1,2)", "(0,1,2,1)",
		strings.Repeat("(0,1)", 1000), strings.Repeat("(", 5000), strings.Repeat("()", 5000), "(" + strings.Repeat("0,", 5000) + "1)",
	} {
		for _, n := range []int{1, 2, 3, 4, 5, 12} {
			fails(t, "PermFrom of "+s)(impl.PermFrom(n, s))
		}
	}
}

// TestFromOneByteOff cuts texts off, leaves a byte out and changes each byte. What
// PermFrom still takes must be the text of what it returns.
func TestFromOneByteOff(t *testing.T) {
	for _, p := range append(allPerms(4), bigPerms()...) {
		text := impl.PermText(p)
		takes := func(s string) {
			q, ok := impl.PermFrom(len(p), s)
			if ok && (!impl.PermValid(q) || len(q) != len(p) || impl.PermText(q) != s) || !ok && len(q) != 0 {
				t.Errorf("PermFrom(%d, %q) = %v, %v", len(p), s, q, ok)
			}
		}
		for i := range len(text) {
			takes(text[:i] + text[i+1:])
			if !strings.HasSuffix(text[:i], ")") {
				fails(t, "PermFrom of a text cut off")(impl.PermFrom(len(p), text[:i]))
			}
			for b := range 256 {
				takes(text[:i] + string([]byte{byte(b)}) + text[i+1:])
			}
		}
	}
}
