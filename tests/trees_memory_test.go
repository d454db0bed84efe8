package tests

import (
	"slices"
	"testing"

	"loop.example/surfacemaps/impl"
)

// treeCalls are the functions of chapter 6 that return lists for a tree, by name; each result is
// the lists of one call.
func treeCalls() map[string]func(tree impl.Tree) [][]int {
	return map[string]func(tree impl.Tree) [][]int{
		"TreeLabels": func(tree impl.Tree) [][]int {
			labels, _ := impl.TreeLabels(tree)
			return [][]int{labels}
		},
		"TreeNext": func(tree impl.Tree) [][]int {
			next, _ := impl.TreeNext(tree)
			return [][]int{next}
		},
		"TreeMap": func(tree impl.Tree) [][]int {
			m, _ := impl.TreeMap(tree)
			return [][]int{m.Turn, m.Flip}
		},
		"TreeQuad": func(tree impl.Tree) [][]int {
			m, _, _ := impl.TreeQuad(tree)
			return [][]int{m.Turn, m.Flip}
		},
		"TreeValid": func(tree impl.Tree) [][]int {
			impl.TreeValid(tree)
			return nil
		},
	}
}

func TestTreesShareNoMemory(t *testing.T) {
	for name, call := range treeCalls() {
		for _, tree := range append(sampleTrees(), notTrees()...) {
			stepped := func(steps []int) [][]int { return call(impl.Tree{Word: tree.Word, Steps: steps}) }
			sharesNoMemory(t, name, stepped, tree.Steps)
		}
	}
}

// quadCalls are the functions of chapter 6 of maps, by name. Those of a root ask from each dart
// on, and from one that there is not.
func quadCalls() map[string]func(m impl.Map, none []int) [][]int {
	return map[string]func(m impl.Map, none []int) [][]int{
		"QuadIs": func(m impl.Map, none []int) [][]int {
			impl.QuadIs(m)
			return nil
		},
		"QuadTree": func(m impl.Map, none []int) [][]int {
			var out [][]int
			for root := range len(m.Turn) + 1 {
				tree, _ := impl.QuadTree(m, root, (5*root+3)%max(len(m.Turn), 1))
				out = append(out, tree.Steps)
			}
			return out
		},
		"TutteQuad": func(m impl.Map, none []int) [][]int {
			quad, _ := impl.TutteQuad(m)
			return [][]int{quad.Turn, quad.Flip}
		},
		"TutteMap": func(m impl.Map, none []int) [][]int {
			var out [][]int
			for root := range len(m.Turn) + 1 {
				got, _ := impl.TutteMap(m, root)
				out = append(out, got.Turn, got.Flip)
			}
			return out
		},
	}
}

func TestQuadsShareNoMemory(t *testing.T) {
	for name, call := range quadCalls() {
		for _, m := range slices.Concat(treeQuads(), allQuads(1), allQuads(2), memoryMaps()) {
			mapSharesNoMemory(t, name, call, m, nil)
		}
	}
}

// TestTreeListsShareNoMemory writes over the steps of the trees of a list, and then over the trees.
func TestTreeListsShareNoMemory(t *testing.T) {
	for n := 1; n <= 2; n++ {
		listsShareNoMemory(t, "TreeAll", func(n int) ([][]int, bool) {
			trees, ok := impl.TreeAll(n)
			var steps [][]int
			for _, tree := range trees {
				steps = append(steps, tree.Steps)
			}
			return steps, ok
		}, n)
		first, second := must[[]impl.Tree](t)(impl.TreeAll(n)), must[[]impl.Tree](t)(impl.TreeAll(n))
		clear(second[:cap(second)])
		for i, tree := range allTrees(n) {
			sameTree(t, "TreeAll shares memory between results", first[i], tree)
		}
	}
}

// TestTreesOfOneList passes one list as Turn and Flip to the functions of quadrangulations.
func TestTreesOfOneList(t *testing.T) {
	p := []int{1, 0}
	loop := impl.Map{Turn: p, Flip: p}
	quad := must[impl.Map](t)(impl.TutteQuad(loop))
	sameMap(t, "TutteQuad of one list as both", quad, mapOf(4, "(0,2)", "(0,1)(2,3)"))
	scribble(quad.Turn)
	sameList(t, "the Flip of TutteQuad", quad.Flip, []int{1, 0, 3, 2})
	scribble(quad.Flip)
	sameList(t, "the argument", p, []int{1, 0})
	if impl.QuadIs(loop) {
		t.Error("QuadIs holds for a loop")
	}
}

// TestTreesKeepNoState asks for all results of trees and of their quadrangulations.
func TestTreesKeepNoState(t *testing.T) {
	keepsNoState(t, append(sampleTrees(), notTrees()...), func(tree impl.Tree) [][]int {
		var lists [][]int
		for _, name := range []string{"TreeLabels", "TreeNext", "TreeMap", "TreeQuad"} {
			lists = append(lists, treeCalls()[name](tree)...)
		}
		m, point, _ := impl.TreeQuad(tree)
		lists = append(lists, quadCalls()["TutteMap"](m, nil)...)
		lists = append(lists, quadCalls()["QuadTree"](m, nil)...)
		return append(lists, []int{point})
	})
}
