package tests

import (
	"slices"
	"testing"

	"loop.example/surfacemaps/impl"
)

// gluingCalls are the functions of chapter 4 that return lists for a gluing, by name; each result
// is the lists of one call.
func gluingCalls() map[string]func(p []int) [][]int {
	return map[string]func(p []int) [][]int{
		"GluingTurn": func(p []int) [][]int {
			turned, _ := impl.GluingTurn(p)
			return [][]int{turned}
		},
		"GluingMap": func(p []int) [][]int {
			m, _ := impl.GluingMap(p)
			return [][]int{m.Turn, m.Flip}
		},
	}
}

func TestGluingsShareNoMemory(t *testing.T) {
	for name, call := range gluingCalls() {
		for _, p := range append(sampleGluings(), notGluings()...) {
			sharesNoMemory(t, name, call, p)
		}
	}
}

// TestGluingOfSharesNoMemory does the same for the gluings of maps, which from a dart 0 may have
// the very numbers of the Flip.
func TestGluingOfSharesNoMemory(t *testing.T) {
	for _, m := range append(oneFaced(t), memoryMaps()...) {
		for root := range len(m.Turn) + 1 {
			call := func(m impl.Map, none []int) [][]int {
				p, _ := impl.GluingOf(m, root)
				return [][]int{p}
			}
			mapSharesNoMemory(t, "GluingOf", call, m, nil)
		}
	}
}

func TestGluingListsShareNoMemory(t *testing.T) {
	for n := 1; n <= 3; n++ {
		listsShareNoMemory(t, "GluingAll", impl.GluingAll, n)
	}
}

// TestGluingsKeepArguments asks the functions that return no list.
func TestGluingsKeepArguments(t *testing.T) {
	for _, p := range append(sampleGluings(), notGluings()...) {
		arg, whole := roomy(p)
		kept := slices.Clone(whole)
		impl.GluingValid(arg)
		impl.GluingCorners(arg)
		impl.GluingGenus(arg)
		impl.GluingPlanar(arg)
		impl.GluingChord(arg)
		sameList(t, "a function changes its argument", whole, kept)
	}
}

// TestGluingCountsKeepNoState asks for counts in different orders, and again after lists were changed.
func TestGluingCountsKeepNoState(t *testing.T) {
	ask := func(numbers []int) map[[3]int]int {
		out := map[[3]int]int{}
		for _, n := range numbers {
			for _, with := range numbers {
				out[[3]int{0, n, with}] = impl.GluingRun(n, with)
				out[[3]int{1, n, with}] = impl.GluingCount(n, with)
				out[[3]int{2, n, with}] = impl.GluingColors(n, with)
				out[[3]int{3, n, with}] = impl.RootedRun(n, with)
			}
			all, _ := impl.GluingAll(n)
			for _, p := range all {
				scribble(p)
			}
		}
		return out
	}
	up := within(-1, 10)
	down := slices.Clone(up)
	slices.Reverse(down)
	first, second := ask(up), ask(down)
	for key, n := range first {
		if second[key] != n {
			t.Errorf("the count %v is %d first and %d then", key, n, second[key])
		}
	}
}
