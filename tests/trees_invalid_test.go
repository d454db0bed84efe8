package tests

import (
	"math"
	"slices"
	"testing"

	"loop.example/surfacemaps/impl"
)

// TestTreeValid holds TreeValid against the definition: for all words of up to 7 letters, of
// which one is another one than those of trees, with all lists of up to 4 steps, of which some
// are out of range.
func TestTreeValid(t *testing.T) {
	var lists [][]int
	for n := range 5 {
		lists = append(lists, stepsOf(n, -2, 2)...)
	}
	valid := 0
	for _, word := range wordsOf("()x", 7) {
		for _, steps := range lists {
			if len(word)+1 < len(steps) || len(word) > 2*len(steps)+2 {
				continue
			}
			tree := impl.Tree{Word: word, Steps: steps}
			got := impl.TreeValid(tree)
			if got != isTree(tree) {
				t.Errorf("TreeValid(%v) = %v", tree, got)
			}
			if got {
				valid++
			}
		}
	}
	if valid != 3+18+135 {
		t.Errorf("%d trees are valid", valid)
	}
	for _, tree := range notTrees() {
		if impl.TreeValid(tree) || isTree(tree) {
			t.Errorf("TreeValid holds for %v", tree)
		}
	}
	if impl.TreeMax != 3 {
		t.Errorf("TreeMax is %d", impl.TreeMax)
	}
}

// failsTree reports an error unless a call failed with an empty tree.
func failsTree(t *testing.T, what string) func(tree impl.Tree, ok bool) {
	return func(tree impl.Tree, ok bool) {
		t.Helper()
		if ok || tree.Word != "" || len(tree.Steps) != 0 {
			t.Errorf("%s returned %v, %v", what, tree, ok)
		}
	}
}

func TestNoTree(t *testing.T) {
	for _, tree := range notTrees() {
		fails(t, "TreeLabels")(impl.TreeLabels(tree))
		fails(t, "TreeNext")(impl.TreeNext(tree))
		failsMap(t, "TreeMap")(impl.TreeMap(tree))
		m, point, ok := impl.TreeQuad(tree)
		failsMap(t, "TreeQuad")(m, ok)
		if point != 0 {
			t.Errorf("TreeQuad(%v) has the point %d", tree, point)
		}
	}
}

func TestNoTreeCount(t *testing.T) {
	for _, n := range outOf(1, 3) {
		if got := impl.TreesMany(n); got != -1 {
			t.Errorf("TreesMany(%d) = %d", n, got)
		}
	}
	for _, n := range outOf(1, 2) {
		if trees, ok := impl.TreeAll(n); ok || len(trees) != 0 {
			t.Errorf("TreeAll(%d) = %v, %v", n, trees, ok)
		}
	}
}

// darts are numbers of darts of which each map has some not.
func darts() []int {
	return []int{-1, 0, 1, 3, 4, 7, 8, 11, 12, math.MaxInt, math.MinInt}
}

// TestNoQuad asks for what is no map, for maps whose faces have other than 4 darts, and for
// quadrangulations of another genus than 0.
func TestNoQuad(t *testing.T) {
	for _, m := range notMaps() {
		if impl.QuadIs(m) {
			t.Errorf("QuadIs holds for %v", m)
		}
		failsMap(t, "TutteQuad of no map")(impl.TutteQuad(m))
		for _, root := range darts() {
			failsMap(t, "TutteMap of no map")(impl.TutteMap(m, root))
			for _, point := range darts() {
				failsTree(t, "QuadTree of no map")(impl.QuadTree(m, root, point))
			}
		}
	}
	others, higher := 0, 0
	for _, m := range append(sampleMaps(), someQuads()...) {
		quad := isQuad(m)
		if quad && genusOf(m) == 0 {
			continue
		}
		if impl.QuadIs(m) {
			t.Errorf("QuadIs holds for %v", m)
		}
		for root := range m.Turn {
			failsTree(t, "QuadTree")(impl.QuadTree(m, root, m.Flip[root]))
			failsTree(t, "QuadTree")(impl.QuadTree(m, root, 0))
			if !quad {
				failsMap(t, "TutteMap")(impl.TutteMap(m, root))
			}
		}
		if quad {
			higher++
		} else {
			others++
		}
	}
	if others < 1000 || higher < 1000 {
		t.Errorf("just %d maps here have other faces, and %d quadrangulations another genus than 0", others, higher)
	}
}

// TestOtherFaces asks for maps of genus 0 with the numbers of darts of their faces.
func TestOtherFaces(t *testing.T) {
	for _, c := range []struct {
		m     impl.Map
		faces []int
	}{
		{mapOf(4, "(0,3)(1,2)", edgesOf(4)), []int{2, 2}},
		{mapOf(4, "(0,1,2)", edgesOf(4)), []int{3, 1}},
		{mapOf(4, "(0,2)", edgesOf(4)), []int{4}},
		{mapOf(8, "(0,7)(1,2)(3,4)(5,6)", edgesOf(8)), []int{4, 4}},
		{mapOf(8, "(0,3)(1,2,4)(5,6)", edgesOf(8)), []int{6, 2}},
		{mapOf(8, "(0,1,2)(3,4)(5,6)", edgesOf(8)), []int{7, 1}},
		{mapOf(8, "(0,2,4,6)", edgesOf(8)), []int{8}},
		{mapOf(12, "(0,7)(1,2)(3,4)(5,6,8)(9,10)", edgesOf(12)), []int{8, 4}},
		{mapOf(12, "(0,11)(1,2)(3,4)(5,6)(7,8)(9,10)", edgesOf(12)), []int{6, 6}},
	} {
		sameList(t, "the faces of a map", typeOf(thenPerm(c.m.Flip, c.m.Turn)), c.faces)
		want := c.faces[0] == 4 && c.faces[len(c.faces)-1] == 4
		if got := impl.QuadIs(c.m); got != want || impl.MapGenus(c.m) != 0 {
			t.Errorf("QuadIs(%v) = %v", c.m, got)
		}
	}
}

// TestNoQuadDart asks for roots and points that are out of range.
func TestNoQuadDart(t *testing.T) {
	for _, m := range treeQuads() {
		n := len(m.Turn)
		for _, none := range []int{-1, -2, -n, n, n + 1, 2 * n, 99, math.MaxInt, math.MinInt} {
			failsMap(t, "TutteMap without a root")(impl.TutteMap(m, none))
			for d := range n {
				failsTree(t, "QuadTree without a root")(impl.QuadTree(m, none, d))
				failsTree(t, "QuadTree without a point")(impl.QuadTree(m, d, none))
			}
			failsTree(t, "QuadTree without both")(impl.QuadTree(m, none, none))
		}
	}
}

// TestNoFurtherRoot asks for roots at the point, and for roots whose edges lead away from it:
// these are all but the given ones.
func TestNoFurtherRoot(t *testing.T) {
	row, fan := knownQuads()
	for _, c := range []struct {
		m     impl.Map
		point int
		roots []int
	}{
		{row, 0, []int{1, 2}}, {row, 1, []int{0, 2}}, {row, 2, []int{0, 3}}, {row, 3, []int{0, 2}},
		{fan, 0, []int{1, 2, 5, 6}}, {fan, 3, []int{1, 2, 5, 6}}, {fan, 7, []int{1, 2, 5, 6}},
		{fan, 1, []int{0, 2, 4, 6}}, {fan, 5, []int{0, 2, 4, 6}}, {fan, 2, []int{1, 3, 5, 6}}, {fan, 6, []int{1, 2, 5, 7}},
	} {
		for root := range c.m.Turn {
			tree, ok := impl.QuadTree(c.m, root, c.point)
			if !slices.Contains(c.roots, root) {
				failsTree(t, "QuadTree")(tree, ok)
			} else if !ok || !isTree(tree) {
				t.Errorf("QuadTree(%v, %d, %d) = %v, %v", c.m, root, c.point, tree, ok)
			}
		}
	}
}

// TestTutteDarts asks for quadrangulations of maps with more darts than are allowed.
func TestTutteDarts(t *testing.T) {
	many := 0
	for _, m := range sampleMaps() {
		if len(m.Turn) > 6 {
			many++
			failsMap(t, "TutteQuad of many darts")(impl.TutteQuad(m))
		} else if _, ok := impl.TutteQuad(m); !ok {
			t.Errorf("TutteQuad(%v) fails", m)
		}
	}
	if many < 100 {
		t.Errorf("just %d maps here have too many darts", many)
	}
}

// TestNoTwoColors asks for the maps of quadrangulations with edges of which both darts are at
// an even distance, as all loops, or both at an odd one.
func TestNoTwoColors(t *testing.T) {
	cross := mapOf(4, "(0,1,2,3)", "(0,2)(1,3)") // both edges are loops
	ring := ringQuad()
	for _, m := range []impl.Map{cross, ring} {
		if !isQuad(m) || impl.MapGenus(m) != 1 {
			t.Fatalf("%v is no quadrangulation of the genus 1", m)
		}
		for root := range m.Turn {
			failsMap(t, "TutteMap")(impl.TutteMap(m, root))
		}
	}
}

// ringQuad returns a torus of three faces and three vertices, from each of which two edges lead
// to the next one. No edge is a loop, and from each vertex both others are at the distance 1.
func ringQuad() impl.Map {
	// The vertex v has the darts 4 v to 4 v + 3: to the right, up, to the left and down.
	m := impl.Map{Turn: make([]int, 12), Flip: make([]int, 12)}
	for v := range 3 {
		next := (v + 1) % 3
		for side := range 4 {
			m.Turn[4*v+side] = 4*v + (side+1)%4
		}
		m.Flip[4*v], m.Flip[4*next+2] = 4*next+2, 4*v
		m.Flip[4*v+1], m.Flip[4*next+3] = 4*next+3, 4*v+1
	}
	return m
}
