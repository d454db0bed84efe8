package tests

import (
	"testing"

	"loop.example/surfacemaps/impl"
)

// listsOf returns the lists of maps, Turn and Flip of each one.
func listsOf(maps []impl.Map) [][]int {
	var out [][]int
	for _, m := range maps {
		out = append(out, m.Turn, m.Flip)
	}
	return out
}

// TestRootedListsShareNoMemory writes over each list of a result, up to its capacity, and then
// over the maps: the lists that follow, another result and a further call must be as they were.
func TestRootedListsShareNoMemory(t *testing.T) {
	list := must[[]impl.Map](t)
	for e := 1; e <= 2; e++ {
		for g := range 3 {
			first, second := list(impl.RootedList(e, g)), list(impl.RootedList(e, g))
			kept := cloneLists(listsOf(first))
			sameLists(t, "RootedList called twice", listsOf(second), kept)
			lists := listsOf(second)
			for i := range lists {
				scribble(lists[i])
				sameLists(t, "RootedList shares memory between its lists", lists[i+1:], kept[i+1:])
			}
			second = second[:cap(second)]
			for i := range second {
				scribble(second[i].Turn)
				scribble(second[i].Flip)
				second[i] = impl.Map{}
			}
			sameLists(t, "RootedList shares memory between results", listsOf(first), kept)
			sameLists(t, "RootedList after its results are changed", listsOf(list(impl.RootedList(e, g))), kept)
		}
	}
}

// TestCountsKeepNoState asks for counts in different orders, and again after lists were changed.
func TestCountsKeepNoState(t *testing.T) {
	ask := func(up bool) map[[3]int]int {
		out := map[[3]int]int{}
		for i := range 10 {
			e := i
			if !up {
				e = 9 - i
			}
			for g := range 6 {
				out[[3]int{0, e, g}] = impl.RootedRun(e, g)
				out[[3]int{1, e, g}] = impl.RootedCount(e, g)
				out[[3]int{2, e, g}] = impl.RootlessRoots(e, g)
				out[[3]int{3, e, g}] = impl.RootlessCount(e, g)
				out[[3]int{4, e, g}] = impl.RootedOne(e, g)
				out[[3]int{5, e, g}] = impl.RootedFace(e, g)
				maps, _ := impl.RootedList(e, g)
				for _, l := range listsOf(maps) {
					scribble(l)
				}
			}
		}
		return out
	}
	first, second := ask(true), ask(false)
	for key, n := range first {
		if second[key] != n {
			t.Errorf("the count %v is %d first and %d then", key, n, second[key])
		}
	}
}
