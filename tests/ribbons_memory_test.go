package tests

import (
	"testing"

	"loop.example/surfacemaps/impl"
)

// ribbonCalls are the functions of chapter 7, by name; each result is the lists of one call. Those
// of an edge ask for each one, and for one that there is not.
func ribbonCalls() map[string]func(m impl.Map, choice []int) [][]int {
	list := func(f func(m impl.Map, choice []int) ([]int, bool)) func(m impl.Map, choice []int) [][]int {
		return func(m impl.Map, choice []int) [][]int {
			got, _ := f(m, choice)
			return [][]int{got}
		}
	}
	edges := func(f func(m impl.Map, e int) (impl.Map, bool)) func(m impl.Map, choice []int) [][]int {
		return func(m impl.Map, choice []int) [][]int {
			var out [][]int
			for e := range len(m.Flip)/2 + 1 {
				got, _ := f(m, e)
				out = append(out, got.Turn, got.Flip)
			}
			return out
		}
	}
	return map[string]func(m impl.Map, choice []int) [][]int{
		"ChoiceCounts": list(impl.ChoiceCounts),
		"ChoiceRest":   list(impl.ChoiceRest),
		"EdgeDelete":   edges(impl.EdgeDelete),
		"EdgeContract": edges(impl.EdgeContract),
		"numbers":      ribbonNumbers,
	}
}

// ribbonNumbers asks the functions of chapter 7 that return no list.
func ribbonNumbers(m impl.Map, choice []int) [][]int {
	numbers := []int{impl.RibbonTrees(m), impl.RibbonMatrix(m), impl.RibbonQuasis(m), impl.RibbonValue(m, 2, 3, 1), impl.EdgeKind(m, 0), impl.EdgeKind(m, 5)}
	for _, holds := range []bool{impl.ChoiceValid(m, choice), impl.ChoiceTree(m, choice), impl.ChoiceQuasi(m, choice)} {
		if holds {
			numbers = append(numbers, 1)
		} else {
			numbers = append(numbers, 0)
		}
	}
	return [][]int{numbers}
}

// ribbonMemory returns the maps of memoryMaps, and the known ones of this chapter.
func ribbonMemory() []impl.Map {
	out := memoryMaps()
	for _, k := range knownRibbons() {
		out = append(out, k.m)
	}
	return out
}

func TestRibbonsShareNoMemory(t *testing.T) {
	for name, call := range ribbonCalls() {
		for _, m := range ribbonMemory() {
			edges := len(m.Flip) / 2
			for _, choice := range [][]int{nil, {0}, {edges - 1}, stay(edges), stay(max(edges-1, 0)), {1, 0}, {0, 0}, {-1}, {0, edges}} {
				mapSharesNoMemory(t, name, call, m, choice)
			}
		}
	}
}

// TestChoicesInMaps passes as the choice a part of a list of the map.
func TestChoicesInMaps(t *testing.T) {
	bridge := mapOf(2, "()", "(0,1)")
	for n, rest := range [][]int{{0}, {}} {
		got := must[[]int](t)(impl.ChoiceRest(bridge, bridge.Turn[:n]))
		sameList(t, "ChoiceRest", got, rest)
		scribble(got)
		sameMap(t, "the map of a choice", bridge, mapOf(2, "()", "(0,1)"))
	}
	if impl.ChoiceValid(bridge, bridge.Turn) || impl.ChoiceValid(bridge, bridge.Flip) || !impl.ChoiceTree(bridge, bridge.Turn[:1]) {
		t.Error("a choice that is a part of the map is told wrong")
	}
	list := []int{1, 0}
	loop := impl.Map{Turn: list, Flip: list}
	if impl.RibbonMatrix(loop) != 1 || impl.RibbonQuasis(loop) != 1 || impl.EdgeKind(loop, 0) != 2 {
		t.Error("a loop of one list as both is not told as a loop")
	}
	sameList(t, "the list", list, []int{1, 0})
}

// TestRibbonsKeepNoState asks for all results of maps.
func TestRibbonsKeepNoState(t *testing.T) {
	keepsNoState(t, ribbonMemory(), func(m impl.Map) [][]int {
		var lists [][]int
		for _, name := range []string{"ChoiceCounts", "ChoiceRest", "EdgeDelete", "EdgeContract", "numbers"} {
			lists = append(lists, ribbonCalls()[name](m, []int{0})...)
		}
		return lists
	})
}
