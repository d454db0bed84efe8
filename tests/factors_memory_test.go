package tests

import (
	"fmt"
	"slices"
	"testing"

	"loop.example/surfacemaps/impl"
)

func TestPartsShareNoMemory(t *testing.T) {
	for name, list := range map[string]func(p []int) ([]int, bool){
		"PartsConj":  impl.PartsConj,
		"ClassFirst": impl.ClassFirst,
	} {
		call := func(p []int) [][]int {
			out, _ := list(p)
			return [][]int{out}
		}
		for _, p := range append(allParts(), notParts()...) {
			sharesNoMemory(t, name, call, p)
		}
	}
}

func TestPartListsShareNoMemory(t *testing.T) {
	for n := 1; n <= 6; n++ {
		listsShareNoMemory(t, "PartsAll", impl.PartsAll, n)
	}
}

// TestPartsKeepArguments asks the functions of one or two lists that return numbers.
func TestPartsKeepArguments(t *testing.T) {
	all := append(allParts(), notParts()...)
	for _, p := range all {
		for _, q := range all {
			first, wholeFirst := roomy(p)
			second, wholeSecond := roomy(q)
			keptFirst, keptSecond := slices.Clone(wholeFirst), slices.Clone(wholeSecond)
			impl.PartsValid(first)
			impl.ClassSize(first)
			impl.CharDegree(first)
			impl.CharValue(first, second)
			impl.CutJoin(first, second)
			sameList(t, "a function changes its argument", wholeFirst, keptFirst)
			sameList(t, "a function changes its second argument", wholeSecond, keptSecond)
		}
	}
}

// roomyTypes returns a list of types that all have spare capacity, as the list itself does,
// and the whole memory behind it.
func roomyTypes(types [][]int) (list [][]int, whole [][]int) {
	for _, parts := range types {
		roomed, _ := roomy(parts)
		whole = append(whole, roomed)
	}
	whole = append(whole, []int{-81}, []int{-82})
	return whole[:len(types)], whole
}

// allOf returns copies of lists up to their capacity.
func allOf(lists [][]int) [][]int {
	var out [][]int
	for _, l := range lists {
		out = append(out, slices.Clone(l[:cap(l)]))
	}
	return out
}

// TestTypesKeepArguments asks the functions of a list of types.
func TestTypesKeepArguments(t *testing.T) {
	for _, types := range append(someTypes(), notTypes()...) {
		arg, whole := roomyTypes(types)
		kept := allOf(whole)
		for name, count := range typeCounts() {
			count(arg)
			sameLists(t, name+" changes its argument", allOf(whole), kept)
		}
	}
}

// TestOneTypeTwice passes one list as both arguments, and as all types.
func TestOneTypeTwice(t *testing.T) {
	p := []int{3, 2, 1}
	if got := must[int](t)(impl.CharValue(p, p)); got != 0 {
		t.Errorf("CharValue of a list and itself is %d", got)
	}
	if got := impl.CutJoin(p, p); got != 0 {
		t.Errorf("CutJoin of a list and itself is %d", got)
	}
	q := []int{3, 1}
	if got := impl.FactorWhole([][]int{q, q, q}); got != 24 {
		t.Errorf("FactorWhole of one list three times is %d", got)
	}
	sameLists(t, "the arguments", [][]int{p, q}, [][]int{{3, 2, 1}, {3, 1}})
}

// TestFactorsKeepNoState asks for all numbers in one order and then in the opposite one.
func TestFactorsKeepNoState(t *testing.T) {
	lists := someTypes()
	slices.Reverse(lists)
	parts := append(allParts(), notParts()...)
	ask := func() map[string]int {
		out := map[string]int{}
		for _, types := range lists {
			for name, count := range typeCounts() {
				out[name+fmt.Sprint(types)] = count(types)
			}
		}
		for _, p := range parts {
			for _, q := range parts {
				value, _ := impl.CharValue(p, q)
				out[fmt.Sprint("value", p, q)], out[fmt.Sprint("join", p, q)] = value, impl.CutJoin(p, q)
			}
			all, _ := impl.PartsAll(sumOf(p))
			for _, l := range all {
				scribble(l)
			}
		}
		return out
	}
	first := ask()
	slices.Reverse(lists)
	slices.Reverse(parts)
	second := ask()
	for key, n := range first {
		if second[key] != n {
			t.Errorf("%s is %d first and %d then", key, n, second[key])
		}
	}
}
