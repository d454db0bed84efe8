package tests

import (
	"slices"
	"testing"

	"loop.example/surfacemaps/impl"
)

// TestKnownRibbons holds all functions that tell of one map against what was worked out by hand.
func TestKnownRibbons(t *testing.T) {
	for _, k := range knownRibbons() {
		if !impl.MapValid(k.m) {
			t.Fatalf("%s is no map", k.name)
		}
		for e, kind := range k.kinds {
			if got := impl.EdgeKind(k.m, e); got != kind {
				t.Errorf("EdgeKind of %s is %d instead of %d for the edge %d", k.name, got, kind, e)
			}
		}
		if len(k.kinds) != len(k.m.Flip)/2 || impl.EdgeKind(k.m, len(k.kinds)) != -1 {
			t.Errorf("%s has not %d edges", k.name, len(k.kinds))
		}
		trees, matrix, quasis := impl.RibbonTrees(k.m), impl.RibbonMatrix(k.m), impl.RibbonQuasis(k.m)
		if trees != k.trees || matrix != k.trees || quasis != k.quasis {
			t.Errorf("%s has %d trees, by a determinant %d, and %d quasi-trees", k.name, trees, matrix, quasis)
		}
		eachValue(func(x, y, z int) {
			if got, want := impl.RibbonValue(k.m, x, y, z), valueAt(k.terms, x, y, z); got != want {
				t.Errorf("RibbonValue of %s at %d, %d, %d is %d instead of %d", k.name, x, y, z, got, want)
			}
		})
	}
}

// TestKnownChoices holds ChoiceCounts, ChoiceTree, ChoiceQuasi and ChoiceRest against what was
// worked out by hand: for the empty choice and that of all edges, for vertices without chosen
// darts, for several parts, some of them with a genus.
func TestKnownChoices(t *testing.T) {
	star := knownAs("a star of six")
	tetrahedron := knownAs("a tetrahedron")
	crossing := knownAs("six loops that all cross")
	for _, c := range []struct {
		m              impl.Map
		choice, counts []int
		tree, quasi    bool
		rest           []int
	}{
		{mapOf(2, "(0,1)", "(0,1)"), nil, []int{1, 1, 0, 0, 0}, true, true, []int{0}},
		{mapOf(2, "(0,1)", "(0,1)"), []int{0}, []int{1, 2, 0, 1, 0}, false, false, nil},
		{mapOf(2, "()", "(0,1)"), nil, []int{2, 2, 0, 0, 0}, false, false, []int{0}},
		{mapOf(2, "()", "(0,1)"), []int{0}, []int{1, 1, 1, 0, 0}, true, true, nil},
		{star, nil, []int{7, 7, 0, 0, 0}, false, false, []int{0, 1, 2, 3, 4, 5}},
		{star, []int{0, 5}, []int{5, 5, 2, 0, 0}, false, false, []int{1, 2, 3, 4}},
		{star, []int{0, 1, 2, 3, 4, 5}, []int{1, 1, 6, 0, 0}, true, true, nil},
		{tetrahedron, []int{0}, []int{3, 3, 1, 0, 0}, false, false, []int{1, 2, 3, 4, 5}},
		{tetrahedron, []int{0, 1, 3}, []int{2, 3, 2, 1, 0}, false, false, []int{2, 4, 5}},
		{tetrahedron, []int{0, 1, 2}, []int{1, 1, 3, 0, 0}, true, true, []int{3, 4, 5}},
		{tetrahedron, []int{0, 1, 4, 5}, []int{1, 2, 3, 1, 0}, false, false, []int{2, 3}},
		{tetrahedron, []int{0, 4}, []int{2, 2, 2, 0, 0}, false, false, []int{1, 2, 3, 5}},
		{crossing, nil, []int{1, 1, 0, 0, 0}, true, true, []int{0, 1, 2, 3, 4, 5}},
		{crossing, []int{2, 4}, []int{1, 1, 0, 2, 1}, false, true, []int{0, 1, 3, 5}},
		{crossing, []int{0, 3, 5}, []int{1, 2, 0, 3, 1}, false, false, []int{1, 2, 4}},
		{crossing, []int{0, 1, 2, 3, 4, 5}, []int{1, 1, 0, 6, 3}, false, true, nil},
		{twoHandles(), nil, []int{2, 2, 0, 0, 0}, false, false, []int{0, 1, 2, 3, 4}},
		{twoHandles(), []int{0, 2}, []int{2, 4, 0, 2, 0}, false, false, []int{1, 3, 4}},
		{twoHandles(), []int{0, 1}, []int{2, 2, 0, 2, 1}, false, false, []int{2, 3, 4}},
		{twoHandles(), []int{0, 1, 2, 3}, []int{2, 2, 0, 4, 2}, false, false, []int{4}},
		{twoHandles(), []int{4}, []int{1, 1, 1, 0, 0}, true, true, []int{0, 1, 2, 3}},
		{twoHandles(), []int{0, 4}, []int{1, 2, 1, 1, 0}, false, false, []int{1, 2, 3}},
		{twoHandles(), []int{0, 1, 4}, []int{1, 1, 1, 2, 1}, false, true, []int{2, 3}},
		{twoHandles(), []int{0, 1, 2, 3, 4}, []int{1, 1, 1, 4, 2}, false, true, nil},
		{ringAcross(), []int{2}, []int{2, 3, 0, 1, 0}, false, false, []int{0, 1}},
		{ringAcross(), []int{0, 1, 2}, []int{1, 1, 1, 2, 1}, false, true, nil},
		{bridgeFirst(), []int{0}, []int{1, 1, 1, 0, 0}, true, true, []int{1}},
		{bridgeFirst(), []int{1}, []int{2, 3, 0, 1, 0}, false, false, []int{0}},
	} {
		sameList(t, "ChoiceCounts", must[[]int](t)(impl.ChoiceCounts(c.m, c.choice)), c.counts)
		sameList(t, "ChoiceRest", must[[]int](t)(impl.ChoiceRest(c.m, c.choice)), c.rest)
		tree, quasi := impl.ChoiceTree(c.m, c.choice), impl.ChoiceQuasi(c.m, c.choice)
		if !impl.ChoiceValid(c.m, c.choice) || tree != c.tree || quasi != c.quasi {
			t.Errorf("for %v and %v, ChoiceTree is %v and ChoiceQuasi %v", c.m, c.choice, tree, quasi)
		}
	}
}

// TestKnownEdges holds EdgeDelete and EdgeContract against what was worked out by hand. An empty
// text of a Turn stands for a call that fails.
func TestKnownEdges(t *testing.T) {
	one, two := "(0,1)", "(0,1)(2,3)"
	tetrahedron := knownAs("a tetrahedron")
	row := knownAs("six bridges in a row")
	ring := knownAs("a ring of six")
	crossing := knownAs("six loops that all cross")
	fiveCross := "(0,1,2,3,4,5,6,7,8,9)"
	for _, c := range []struct {
		m                   impl.Map
		e                   int
		deleted, contracted string
		flip                string
	}{
		// One edge.
		{mapOf(2, "(0,1)", "(0,1)"), 0, "", "", ""},
		{mapOf(2, "()", "(0,1)"), 0, "", "", ""},
		// From the dart 2, or 1, the new Turn goes over both darts of the edge.
		{mapOf(4, "(1,2)", two), 0, "", "()", one},
		{mapOf(4, "(1,2)", two), 1, "", "()", one},
		{mapOf(4, "(0,1,2)", two), 1, "", "(0,1)", one},
		{bridgeFirst(), 0, "", "(0,1)", one},
		// Loops whose darts follow each other by Turn, and others.
		{mapOf(4, "(0,1,2)", two), 0, "()", "", one},
		{bridgeFirst(), 1, "()", "", one},
		{mapOf(4, "(0,1,2,3)", two), 0, "(0,1)", "", one},
		{mapOf(4, "(0,1,2,3)", two), 1, "(0,1)", "", one},
		{mapOf(4, "(0,1,2,3)", "(0,2)(1,3)"), 0, "(0,1)", "", one},
		{mapOf(4, "(0,1,2,3)", "(0,2)(1,3)"), 1, "(0,1)", "", one},
		{crossing, 0, fiveCross, "", "(0,5)(1,6)(2,7)(3,8)(4,9)"},
		{crossing, 5, fiveCross, "", "(0,5)(1,6)(2,7)(3,8)(4,9)"},
		// Several edges between the same two vertices.
		{mapOf(4, "(0,3)(1,2)", two), 0, "()", "(0,1)", one},
		{mapOf(6, "(0,2,4)(1,3,5)", "(0,1)(2,3)(4,5)"), 1, "(0,2)(1,3)", "(0,3,1,2)", two},
		{mapOf(6, "(0,2,4)(1,5,3)", "(0,1)(2,3)(4,5)"), 0, "(0,2)(1,3)", "(0,2,3,1)", two},
		{ringAcross(), 0, "(0,3,2)", "(0,3,1,2)", two},
		{ringAcross(), 2, "(0,2)(1,3)", "", two},
		// A triangle, which becomes a row or a ring of two.
		{mapOf(6, "(0,5)(1,2)(3,4)", "(0,1)(2,3)(4,5)"), 0, "(1,2)", "(0,3)(1,2)", two},
		// As many darts as there may be.
		{tetrahedron, 0, "(0,2)(1,5,6)(3,7,8)(4,9)", "(0,2,9,4)(1,5,6)(3,7,8)", edgesOf(10)},
		{row, 0, "", "(1,2)(3,4)(5,6)(7,8)", edgesOf(10)},
		{row, 2, "", "(1,2)(3,4)(5,6)(7,8)", edgesOf(10)},
		{row, 5, "", "(1,2)(3,4)(5,6)(7,8)", edgesOf(10)},
		{ring, 0, "(1,2)(3,4)(5,6)(7,8)", "(0,9)(1,2)(3,4)(5,6)(7,8)", edgesOf(10)},
		{twoHandles(), 4, "", "(0,1,2,3,4,5,6,7)", "(0,2)(1,3)(4,6)(5,7)"},
		{twoHandles(), 1, "(0,1,6)(2,3,4,5,7)", "", "(0,1)(2,4)(3,5)(6,7)"},
	} {
		deleted, fine := impl.EdgeDelete(c.m, c.e)
		isKnownEdge(t, "EdgeDelete", c.deleted, c.flip)(deleted, fine)
		contracted, ok := impl.EdgeContract(c.m, c.e)
		isKnownEdge(t, "EdgeContract", c.contracted, c.flip)(contracted, ok)
	}
}

// isKnownEdge reports an error unless a call gave a map with two texts, or failed if that of the
// Turn is empty.
func isKnownEdge(t *testing.T, what, turn, flip string) func(m impl.Map, ok bool) {
	return func(m impl.Map, ok bool) {
		t.Helper()
		if turn == "" {
			failsMap(t, what)(m, ok)
		} else if !ok || impl.PermText(m.Turn) != turn || impl.PermText(m.Flip) != flip {
			t.Errorf("%s returned %s and %s instead of %s and %s", what, impl.PermText(m.Turn), impl.PermText(m.Flip), turn, flip)
		}
	}
}

// Promise 71: choices.
func TestPromise71Valid(t *testing.T) {
	list := must[[]int](t)
	for _, m := range ribbonMaps() {
		all := stay(len(m.Flip) / 2)
		eachChoice(m, func(choice []int) {
			if !impl.ChoiceValid(m, choice) {
				t.Errorf("ChoiceValid(%v, %v) does not hold", m, choice)
			}
			both := append(list(impl.ChoiceRest(m, choice)), choice...)
			slices.Sort(both)
			sameList(t, "a choice and ChoiceRest", both, all)
		})
		counts := list(impl.MapCounts(m))
		if got := list(impl.ChoiceCounts(m, all)); got[0] != 1 || got[1] != counts[2] {
			t.Errorf("ChoiceCounts(%v, %v) = %v", m, all, got)
		}
		sameList(t, "ChoiceCounts of no edge", list(impl.ChoiceCounts(m, nil)), []int{counts[0], counts[0], 0, 0, 0})
	}
}

// Promise 72: what is counted of a choice.
func TestPromise72Counts(t *testing.T) {
	list := must[[]int](t)
	bare, apart, higher := 0, 0, 0
	for _, m := range ribbonMaps() {
		_, vertices := cycleOf(m.Turn)
		eachChoice(m, func(choice []int) {
			got := list(impl.ChoiceCounts(m, choice))
			sameList(t, "ChoiceCounts", got, countsOf(m, choice))
			parts, sides, rank, nullity, genus := got[0], got[1], got[2], got[3], got[4]
			if rank+nullity != len(choice) || 2*parts-vertices+len(choice)-sides != 2*genus || genus < 0 || genus > impl.MapGenus(m) {
				t.Errorf("ChoiceCounts(%v, %v) = %v", m, choice, got)
			}
			for _, e := range restOf(m, choice) {
				more := list(impl.ChoiceCounts(m, withEdge(choice, e)))
				if differ := more[1] - sides; differ != 1 && differ != -1 {
					t.Errorf("with the edge %d, the sides of %v and %v differ by %d", e, m, choice, differ)
				}
			}
			if parts > len(choice)+1 {
				bare++
			}
			if parts > 1 && genus > 0 {
				apart++
			}
			if genus > 1 {
				higher++
			}
		})
	}
	if bare < 100 || apart < 100 || higher < 100 {
		t.Errorf("just %d choices here leave vertices bare, %d have parts and a genus, %d a genus of 2 or more", bare, apart, higher)
	}
}

// Promise 73: spanning trees.
func TestPromise73Tree(t *testing.T) {
	for _, m := range ribbonMaps() {
		_, vertices := cycleOf(m.Turn)
		eachChoice(m, func(choice []int) {
			want := countsOf(m, choice)
			got := impl.ChoiceTree(m, choice)
			if got != (want[0] == 1 && want[3] == 0) {
				t.Errorf("ChoiceTree(%v, %v) = %v", m, choice, got)
			}
			if !got {
				return
			}
			if len(choice) != vertices-1 || !impl.ChoiceQuasi(m, choice) || want[4] != 0 {
				t.Errorf("the spanning tree %v of %v has %v", choice, m, want)
			}
			for i := range choice {
				less := slices.Delete(slices.Clone(choice), i, i+1)
				if partsOf(m, less) != 2 || impl.ChoiceTree(m, less) {
					t.Errorf("the spanning tree %v of %v needs not all of its edges", choice, m)
				}
			}
		})
	}
}

// Promise 74: quasi-trees.
func TestPromise74Quasi(t *testing.T) {
	list := must[[]int](t)
	higher := 0
	for _, m := range ribbonMaps() {
		dual := must[impl.Map](t)(impl.MapDual(m))
		_, vertices := cycleOf(m.Turn)
		eachChoice(m, func(choice []int) {
			want := countsOf(m, choice)
			got := impl.ChoiceQuasi(m, choice)
			if got != (want[0] == 1 && want[1] == 1) {
				t.Errorf("ChoiceQuasi(%v, %v) = %v", m, choice, got)
			}
			rest := list(impl.ChoiceRest(m, choice))
			if impl.ChoiceQuasi(dual, rest) != got {
				t.Errorf("ChoiceQuasi of %v and %v is %v, but not of the rest in the dual", m, choice, got)
			}
			if !got {
				return
			}
			genus, other := list(impl.ChoiceCounts(m, choice))[4], list(impl.ChoiceCounts(dual, rest))[4]
			if len(choice) != vertices-1+2*genus || genus+other != impl.MapGenus(m) {
				t.Errorf("the quasi-tree %v of %v has the genus %d, the rest %d", choice, m, genus, other)
			}
			if genus > 0 {
				higher++
			}
		})
	}
	if higher < 100 {
		t.Errorf("just %d quasi-trees here have a genus greater than 0", higher)
	}
}

// Promise 75: the edges that are not chosen.
func TestPromise75Rest(t *testing.T) {
	list := must[[]int](t)
	for _, m := range ribbonMaps() {
		dual := must[impl.Map](t)(impl.MapDual(m))
		eachChoice(m, func(choice []int) {
			rest := list(impl.ChoiceRest(m, choice))
			sameList(t, "ChoiceRest", rest, restOf(m, choice))
			sameList(t, "ChoiceRest of ChoiceRest", list(impl.ChoiceRest(m, rest)), choice)
			if sides, other := list(impl.ChoiceCounts(m, choice))[1], list(impl.ChoiceCounts(dual, rest))[1]; sides != other {
				t.Errorf("the choice %v of %v has %d sides, the rest in the dual %d", choice, m, sides, other)
			}
		})
	}
}

// Promise 76: the number of spanning trees.
func TestPromise76Trees(t *testing.T) {
	one := must[impl.Map](t)
	most := 0
	for _, m := range ribbonMaps() {
		_, vertices := cycleOf(m.Turn)
		want := 0
		eachChoice(m, func(choice []int) {
			if len(choice) == vertices-1 && partsOf(m, choice) == 1 {
				want++
			}
		})
		trees := impl.RibbonTrees(m)
		if trees != want || trees < 1 || impl.RibbonMatrix(m) != trees {
			t.Fatalf("RibbonTrees(%v) = %d instead of %d, RibbonMatrix %d", m, trees, want, impl.RibbonMatrix(m))
		}
		mirror, dual := one(impl.MapMirror(m)), one(impl.MapDual(m))
		if impl.RibbonTrees(mirror) != trees || impl.RibbonMatrix(mirror) != trees {
			t.Errorf("RibbonTrees(%v) = %d, but not of the mirror", m, trees)
		}
		if genusOf(m) == 0 && (impl.RibbonTrees(dual) != trees || impl.RibbonMatrix(dual) != trees) {
			t.Errorf("RibbonTrees(%v) = %d, but not of the dual", m, trees)
		}
		most = max(most, trees)
	}
	if most < 16 {
		t.Errorf("the greatest number of spanning trees here is %d", most)
	}
}

// ofKind calls do with all edges of a kind of maps with further edges.
func ofKind(kind int, do func(m impl.Map, e int)) {
	for _, m := range ribbonMaps() {
		for e := range len(m.Flip) / 2 {
			if len(m.Flip) > 2 && kindOf(m, e) == kind {
				do(m, e)
			}
		}
	}
}

// Promise 77: spanning trees with an edge and without it.
func TestPromise77Matrix(t *testing.T) {
	one := must[impl.Map](t)
	ofKind(0, func(m impl.Map, e int) {
		without, with := impl.RibbonMatrix(one(impl.EdgeDelete(m, e))), impl.RibbonMatrix(one(impl.EdgeContract(m, e)))
		if got := impl.RibbonMatrix(m); got != without+with {
			t.Errorf("RibbonMatrix(%v) = %d, but %d and %d without and with the edge %d", m, got, without, with, e)
		}
	})
	ofKind(1, func(m impl.Map, e int) {
		if got, with := impl.RibbonMatrix(m), impl.RibbonMatrix(one(impl.EdgeContract(m, e))); got != with {
			t.Errorf("RibbonMatrix(%v) = %d, but %d with the bridge %d", m, got, with, e)
		}
	})
	ofKind(2, func(m impl.Map, e int) {
		if got, without := impl.RibbonMatrix(m), impl.RibbonMatrix(one(impl.EdgeDelete(m, e))); got != without {
			t.Errorf("RibbonMatrix(%v) = %d, but %d without the loop %d", m, got, without, e)
		}
	})
}

// Promise 78: the number of quasi-trees.
func TestPromise78Quasis(t *testing.T) {
	one := must[impl.Map](t)
	more := 0
	for _, m := range ribbonMaps() {
		want := 0
		eachChoice(m, func(choice []int) {
			if partsOf(m, choice) == 1 && sidesOf(m, choice) == 1 {
				want++
			}
		})
		quasis, trees := impl.RibbonQuasis(m), impl.RibbonTrees(m)
		if quasis != want || quasis < trees || genusOf(m) == 0 && quasis != trees {
			t.Errorf("RibbonQuasis(%v) = %d instead of %d", m, quasis, want)
		}
		if impl.RibbonQuasis(one(impl.MapDual(m))) != quasis || impl.RibbonQuasis(one(impl.MapMirror(m))) != quasis {
			t.Errorf("RibbonQuasis(%v) = %d, but not of the dual and the mirror", m, quasis)
		}
		if quasis > trees {
			more++
		}
	}
	if more < 100 {
		t.Errorf("just %d maps here have more quasi-trees than spanning trees", more)
	}
}

// Promise 79: the value with an edge and without it.
func TestPromise79Value(t *testing.T) {
	one := must[impl.Map](t)
	ofKind(0, func(m impl.Map, e int) {
		without, with := one(impl.EdgeDelete(m, e)), one(impl.EdgeContract(m, e))
		someValues(func(x, y, z int) {
			got, want := impl.RibbonValue(m, x, y, z), impl.RibbonValue(without, x, y, z)+impl.RibbonValue(with, x, y, z)
			if got != want {
				t.Errorf("RibbonValue(%v, %d, %d, %d) = %d, but %d without and with the edge %d", m, x, y, z, got, want, e)
			}
		})
	})
	ofKind(1, func(m impl.Map, e int) {
		with := one(impl.EdgeContract(m, e))
		someValues(func(x, y, z int) {
			if got, want := impl.RibbonValue(m, x, y, z), impl.RibbonValue(with, x, y, z)*(x+1); got != want {
				t.Errorf("RibbonValue(%v, %d, %d, %d) = %d, but %d with the bridge %d", m, x, y, z, got, want, e)
			}
		})
	})
}

// Promise 80: the value, by the definition and at numbers where it is known, 0 among them.
func TestPromise80Value(t *testing.T) {
	for _, m := range ribbonMaps() {
		terms := termsOf(m)
		dual := must[impl.Map](t)(impl.MapDual(m))
		plane := genusOf(m) == 0
		eachValue(func(x, y, z int) {
			got := impl.RibbonValue(m, x, y, z)
			if want := valueAt(terms, x, y, z); got != want {
				t.Errorf("RibbonValue(%v, %d, %d, %d) = %d instead of %d", m, x, y, z, got, want)
			}
			if plane && impl.RibbonValue(dual, y, x, z) != got {
				t.Errorf("RibbonValue(%v, %d, %d, %d) = %d, but not of the dual", m, x, y, z, got)
			}
			if x == 0 && y == 0 && got != impl.RibbonTrees(m) {
				t.Errorf("RibbonValue(%v, 0, 0, %d) = %d", m, z, got)
			}
		})
		if got := impl.RibbonValue(m, 1, 1, 1); got != power(2, len(m.Flip)/2) {
			t.Errorf("RibbonValue(%v, 1, 1, 1) = %d", m, got)
		}
	}
}

// Promise 81: kinds of edges.
func TestPromise81Kind(t *testing.T) {
	one := must[impl.Map](t)
	many := [3]int{}
	for _, m := range ribbonMaps() {
		dual, mirror := one(impl.MapDual(m)), one(impl.MapMirror(m))
		for e := range len(m.Flip) / 2 {
			kind := impl.EdgeKind(m, e)
			if kind != kindOf(m, e) || impl.EdgeKind(mirror, e) != kind {
				t.Fatalf("EdgeKind(%v, %d) = %d", m, e, kind)
			}
			many[kind]++
			others := must[[]int](t)(impl.ChoiceCounts(m, restOf(m, []int{e})))
			if (others[0] == 2) != (kind == 1) || others[0] > 2 {
				t.Errorf("EdgeKind(%v, %d) = %d, but all others have %d parts", m, e, kind, others[0])
			}
			if want := []int{0, 2, 1}[kind]; genusOf(m) == 0 && impl.EdgeKind(dual, e) != want {
				t.Errorf("EdgeKind(%v, %d) = %d, but %d in the dual", m, e, kind, impl.EdgeKind(dual, e))
			}
		}
	}
	if slices.Min(many[:]) < 100 {
		t.Errorf("so many edges here are of each kind: %v", many)
	}
}

// Promise 82: an edge left out.
func TestPromise82Delete(t *testing.T) {
	one := must[impl.Map](t)
	list := must[[]int](t)
	lower := 0
	for _, m := range ribbonMaps() {
		dual, counts := one(impl.MapDual(m)), list(impl.MapCounts(m))
		for e := range counts[1] {
			less, ok := impl.EdgeDelete(m, e)
			if kindOf(m, e) == 1 || counts[1] == 1 {
				failsMap(t, "EdgeDelete")(less, ok)
				continue
			}
			if !ok || !isMap(less) {
				t.Fatalf("EdgeDelete(%v, %d) = %v, %v", m, e, less, ok)
			}
			sameMap(t, "EdgeDelete", less, deleteOf(m, e))
			if now := list(impl.MapCounts(less)); now[0] != counts[0] || now[1] != counts[1]-1 {
				t.Errorf("EdgeDelete(%v, %d) has %v vertices, edges and faces", m, e, now)
			}
			if drawn, fine := impl.EdgeContract(dual, e); fine {
				sameMap(t, "EdgeContract in the dual", drawn, one(impl.MapDual(less)))
			} else if kindOf(dual, e) != 2 {
				t.Errorf("EdgeContract(%v, %d) fails", dual, e)
			}
			if genusOf(less) < genusOf(m) {
				lower++
			}
		}
	}
	if lower < 100 {
		t.Errorf("just %d edges here leave a lesser genus", lower)
	}
}

// Promise 83: an edge drawn together.
func TestPromise83Contract(t *testing.T) {
	one := must[impl.Map](t)
	list := must[[]int](t)
	overBoth := 0
	for _, m := range ribbonMaps() {
		dual, counts := one(impl.MapDual(m)), list(impl.MapCounts(m))
		for e, darts := range edgeDarts(m) {
			drawn, ok := impl.EdgeContract(m, e)
			if kindOf(m, e) == 2 || counts[1] == 1 {
				failsMap(t, "EdgeContract")(drawn, ok)
				continue
			}
			if !ok || !isMap(drawn) {
				t.Fatalf("EdgeContract(%v, %d) = %v, %v", m, e, drawn, ok)
			}
			sameMap(t, "EdgeContract", drawn, contractOf(m, e))
			sameList(t, "MapCounts of EdgeContract", list(impl.MapCounts(drawn)), []int{counts[0] - 1, counts[1] - 1, counts[2]})
			if impl.MapGenus(drawn) != impl.MapGenus(m) {
				t.Errorf("EdgeContract(%v, %d) has the genus %d", m, e, impl.MapGenus(drawn))
			}
			if less, fine := impl.EdgeDelete(dual, e); fine {
				sameMap(t, "MapDual of EdgeContract", one(impl.MapDual(drawn)), less)
			} else if kindOf(dual, e) != 1 {
				t.Errorf("EdgeDelete(%v, %d) fails", dual, e)
			}
			if m.Turn[darts[0]] == darts[0] || m.Turn[darts[1]] == darts[1] {
				overBoth++
			}
		}
	}
	if overBoth < 100 {
		t.Errorf("just %d edges here are gone over with both darts", overBoth)
	}
}
