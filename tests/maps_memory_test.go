package tests

import (
	"slices"
	"testing"

	"loop.example/surfacemaps/impl"
)

// mapCalls are the functions of chapter 2 that return lists, by name; each result is the lists of one call.
func mapCalls() map[string]func(m impl.Map, by []int) [][]int {
	list := func(f func(m impl.Map) ([]int, bool)) func(m impl.Map, by []int) [][]int {
		return func(m impl.Map, by []int) [][]int {
			p, _ := f(m)
			return [][]int{p}
		}
	}
	lists := func(f func(m impl.Map, by []int) (impl.Map, bool)) func(m impl.Map, by []int) [][]int {
		return func(m impl.Map, by []int) [][]int {
			r, _ := f(m, by)
			return [][]int{r.Turn, r.Flip}
		}
	}
	one := func(f func(m impl.Map) (impl.Map, bool)) func(m impl.Map, by []int) [][]int {
		return lists(func(m impl.Map, by []int) (impl.Map, bool) { return f(m) })
	}
	return map[string]func(m impl.Map, by []int) [][]int{
		"MapFaces":   list(impl.MapFaces),
		"MapCounts":  list(impl.MapCounts),
		"MapDegrees": list(impl.MapDegrees),
		"MapDual":    one(impl.MapDual),
		"MapMirror":  one(impl.MapMirror),
		"MapLeast":   one(impl.MapLeast),
		"MapRename":  lists(impl.MapRename),
		"MapForm": lists(func(m impl.Map, by []int) (impl.Map, bool) {
			return impl.MapForm(m, 0)
		}),
		"MapForm of the last dart": lists(func(m impl.Map, by []int) (impl.Map, bool) {
			return impl.MapForm(m, len(m.Turn)-1)
		}),
	}
}

// memoryMaps are maps, with some that are their own forms, duals or mirrors, and invalid ones.
func memoryMaps() []impl.Map {
	var out []impl.Map
	for _, k := range knownMaps() {
		form, _ := impl.MapForm(k.m, 0)
		out = append(out, k.m, form)
	}
	return append(out,
		impl.Map{Turn: []int{0, 1, 2, 3}, Flip: []int{1, 0, 3, 2}},
		impl.Map{Turn: []int{0, 1}, Flip: []int{1, 0, 2}},
		impl.Map{Turn: []int{1, 0}, Flip: []int{0, 1}},
		impl.Map{})
}

func TestMapsShareNoMemory(t *testing.T) {
	for name, call := range mapCalls() {
		for _, m := range memoryMaps() {
			for _, p := range somePerms(max(len(m.Turn), 1)) {
				mapSharesNoMemory(t, name, call, m, p)
			}
		}
	}
}

// mapSharesNoMemory calls a function of a map and a list that returns lists, as keepsApart asks.
func mapSharesNoMemory(t *testing.T, name string, call func(m impl.Map, by []int) [][]int, m impl.Map, p []int) {
	t.Helper()
	arg, whole := roomyMap(m)
	by, wholeBy := roomy(p)
	keepsApart(t, name, [][]int{whole[0], whole[1], wholeBy}, func() [][]int { return call(arg, by) })
}

func cloneLists(lists [][]int) [][]int {
	var out [][]int
	for _, list := range lists {
		out = append(out, slices.Clone(list))
	}
	return out
}

// TestMapsKeepArguments asks the functions that return no list.
func TestMapsKeepArguments(t *testing.T) {
	for _, m := range memoryMaps() {
		for _, other := range memoryMaps() {
			a, wholeA := roomyMap(m)
			b, wholeB := roomyMap(other)
			impl.MapSame(a, b)
			impl.MapValid(a)
			impl.MapGenus(a)
			impl.MapTurns(a)
			impl.MapFar(a, 0, len(b.Turn)-1)
			keptA, _ := roomyMap(m)
			keptB, _ := roomyMap(other)
			for i, kept := range [][]int{keptA.Turn, keptA.Flip, keptB.Turn, keptB.Flip} {
				whole := [][]int{wholeA[0], wholeA[1], wholeB[0], wholeB[1]}[i]
				sameList(t, "an argument", whole, kept[:cap(kept)])
			}
		}
	}
}

// TestOneListAsBoth passes one list as Turn and Flip, and as the renaming, too.
func TestOneListAsBoth(t *testing.T) {
	p := []int{1, 0}
	loop := impl.Map{Turn: p, Flip: p}
	for name, call := range mapCalls() {
		got := call(loop, p)
		if len(got) == 2 {
			scribble(got[0])
			if got[1][0] != 1 || got[1][1] != 0 {
				t.Errorf("%s of one list as both shares memory between its lists", name)
			}
		}
		scribble(got[len(got)-1])
		sameList(t, name+" of one list as both", p, []int{1, 0})
	}
	if !impl.MapSame(loop, loop) || impl.MapTurns(loop) != 2 || impl.MapFar(loop, 0, 1) != 0 {
		t.Error("a loop of one list as both is not told as a loop")
	}
}
