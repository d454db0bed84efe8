package tests

import (
	"slices"
	"testing"

	"loop.example/surfacemaps/impl"
)

// quadAndPoint gives both values of TreeQuad, which has to succeed.
func quadAndPoint(t *testing.T) func(m impl.Map, point int, ok bool) (impl.Map, int) {
	return func(m impl.Map, point int, ok bool) (impl.Map, int) {
		t.Helper()
		if !ok {
			t.Fatal("TreeQuad fails")
		}
		return m, point
	}
}

// TestKnownTrees holds all functions that tell of one tree against what was worked out by hand.
func TestKnownTrees(t *testing.T) {
	list := must[[]int](t)
	one := must[impl.Map](t)
	for _, k := range knownTrees() {
		if !impl.TreeValid(k.tree) {
			t.Fatalf("%v is no tree", k.tree)
		}
		n := len(k.labels)
		sameList(t, "TreeLabels", list(impl.TreeLabels(k.tree)), k.labels)
		sameList(t, "TreeNext", list(impl.TreeNext(k.tree)), k.next)
		sameMap(t, "TreeMap", one(impl.TreeMap(k.tree)), impl.Map{Turn: list(impl.PermFrom(n, k.turn)), Flip: matchOf(k.tree.Word)})
		quad, point := quadAndPoint(t)(impl.TreeQuad(k.tree))
		if got := impl.PermText(quad.Turn); got != k.quad || point != k.point || !impl.QuadIs(quad) {
			t.Errorf("TreeQuad(%v) has the Turn %s and the point %d", k.tree, got, point)
		}
		sameTree(t, "QuadTree", must[impl.Tree](t)(impl.QuadTree(quad, 0, k.point)), k.tree)
	}
}

// Promise 59: trees.
func TestPromise59Valid(t *testing.T) {
	for _, tree := range sampleTrees() {
		if !impl.TreeValid(tree) {
			t.Fatalf("TreeValid(%v) does not hold", tree)
		}
		m := must[impl.Map](t)(impl.TreeMap(tree))
		if _, faces := facesOf(m); faces != 1 || genusOf(m) != 0 || len(m.Turn) != len(tree.Word) {
			t.Errorf("TreeMap(%v) = %v", tree, m)
		}
		if !impl.TreeValid(impl.Tree{Word: tree.Word, Steps: opposites(tree.Steps)}) {
			t.Errorf("TreeValid does not hold for %v with the opposite steps", tree)
		}
	}
}

// opposites returns the opposites of some numbers.
func opposites(list []int) []int {
	var out []int
	for _, x := range list {
		out = append(out, -x)
	}
	return out
}

// Promise 60: labels.
func TestPromise60Labels(t *testing.T) {
	list := must[[]int](t)
	seen := map[int]bool{}
	for _, tree := range sampleTrees() {
		labels := list(impl.TreeLabels(tree))
		sameList(t, "TreeLabels", labels, labelsOf(tree))
		n := len(labels)
		if n != len(tree.Word) || labels[0] != 0 {
			t.Fatalf("TreeLabels(%v) = %v", tree, labels)
		}
		match := matchOf(tree.Word)
		for i, label := range labels {
			behind := labels[(i+1)%n]
			if label > behind+1 || behind > label+1 || behind != labels[match[i]] {
				t.Errorf("TreeLabels(%v) = %v is wrong behind the letter %d", tree, labels, i)
			}
			seen[label] = true
		}
		sameList(t, "TreeLabels of opposite steps", list(impl.TreeLabels(impl.Tree{Word: tree.Word, Steps: opposites(tree.Steps)})), opposites(labels))
	}
	if len(seen) != 7 || !seen[3] || !seen[-3] {
		t.Errorf("the labels of all trees are %v", seen)
	}
}

// Promise 61: successors.
func TestPromise61Next(t *testing.T) {
	list := must[[]int](t)
	ahead, none := 0, 0
	for _, tree := range sampleTrees() {
		labels := labelsOf(tree)
		next := list(impl.TreeNext(tree))
		sameList(t, "TreeNext", next, nextOf(labels))
		for corner, to := range next {
			if least := labels[corner] == slices.Min(labels); least != (to == -1) || to < -1 || to >= len(next) {
				t.Fatalf("TreeNext(%v) = %v", tree, next)
			}
			if to < 0 {
				none++
				continue
			}
			if labels[to] != labels[corner]-1 {
				t.Errorf("TreeNext(%v) = %v leads from %d to another label than 1 less", tree, next, corner)
			}
			for between := (corner + 1) % len(next); between != to; between = (between + 1) % len(next) {
				if labels[between] < labels[corner] {
					t.Errorf("TreeNext(%v) = %v passes over a lesser label from %d", tree, next, corner)
				}
			}
			if to < corner {
				ahead++
			}
		}
	}
	if ahead < 100 || none < 100 {
		t.Errorf("just %d successors here are behind the end of the walk, and %d corners have none", ahead, none)
	}
}

// Promise 62: trees as maps.
func TestPromise62Map(t *testing.T) {
	one := must[impl.Map](t)
	for _, tree := range sampleTrees() {
		m := one(impl.TreeMap(tree))
		match := matchOf(tree.Word)
		sameList(t, "the Flip of TreeMap", m.Flip, match)
		gluing := must[[]int](t)(impl.GluingOf(m, 0))
		sameList(t, "GluingOf of TreeMap", gluing, match)
		// With the faces in the order of the letters, the Turn of a letter's partner is the letter behind.
		for i, x := range match {
			if m.Turn[x] != (i+1)%len(match) {
				t.Errorf("TreeMap(%v) = %v has other faces than the letters in order", tree, m)
			}
		}
		if !impl.GluingPlanar(gluing) || impl.MapGenus(m) != 0 {
			t.Errorf("TreeMap(%v) = %v is of the genus %d", tree, m, impl.MapGenus(m))
		}
		still := one(impl.TreeMap(impl.Tree{Word: tree.Word, Steps: make([]int, len(tree.Steps))}))
		sameMap(t, "TreeMap with all steps 0", still, m)
		if !impl.MapSame(m, still) {
			t.Errorf("TreeMap(%v) is not the same with all steps 0", tree)
		}
	}
}

// Promise 63: the quadrangulation of a tree.
func TestPromise63Quad(t *testing.T) {
	for _, tree := range sampleTrees() {
		m, point := quadAndPoint(t)(impl.TreeQuad(tree))
		want, wantPoint := quadOf(tree)
		sameMap(t, "TreeQuad", m, want)
		if point != wantPoint {
			t.Errorf("the point of TreeQuad(%v) is %d instead of %d", tree, point, wantPoint)
		}
		counts := must[[]int](t)(impl.MapCounts(m))
		edges := len(tree.Steps)
		if !impl.QuadIs(m) || !isQuad(m) || genusOf(m) != 0 {
			t.Errorf("TreeQuad(%v) = %v is no quadrangulation", tree, m)
		}
		sameList(t, "MapCounts of TreeQuad", counts, []int{edges + 2, 2 * edges, edges})
		sameTree(t, "QuadTree of TreeQuad", must[impl.Tree](t)(impl.QuadTree(m, 0, point)), tree)
	}
}

// Promise 64: labels are distances from the point.
func TestPromise64Distances(t *testing.T) {
	for _, tree := range sampleTrees() {
		m, point := quadAndPoint(t)(impl.TreeQuad(tree))
		labels := must[[]int](t)(impl.TreeLabels(tree))
		far := farDarts(m, point)
		for corner, label := range labels {
			want := label - slices.Min(labels) + 1
			if got := impl.MapFar(m, point, 2*corner); got != want || far[2*corner] != want || far[2*corner+1] != want-1 {
				t.Errorf("MapFar from the point of TreeQuad(%v) to %d is %d instead of %d", tree, 2*corner, got, want)
			}
		}
	}
}

// isRoot tells whether a quadrangulation has a tree from a root: whether the root is further
// from the point by 1 than the other end of its edge.
func isRoot(m impl.Map, root int, far []int) bool {
	return far[root] == far[m.Flip[root]]+1
}

// Promise 65: the tree of a quadrangulation, for all of them from all roots with all points.
func TestPromise65Tree(t *testing.T) {
	many := map[int]int{}
	for n := 1; n <= 3; n++ {
		for _, m := range rootedQuads(n, 0) {
			for point := range m.Turn {
				far := farDarts(m, point)
				for root := range m.Turn {
					if isRoot(m, root, far) {
						checkQuadTree(t, m, root, point)
						many[n]++
					} else {
						failsTree(t, "QuadTree")(impl.QuadTree(m, root, point))
					}
				}
			}
		}
		// From each vertex as the point, just half of the darts of each form are roots.
		if want := impl.RootedPlane(n) * 4 * n * 2 * n; many[n] != want {
			t.Errorf("%d roots with points instead of %d", many[n], want)
		}
	}
}

// checkQuadTree checks that TreeQuad of the tree is the map, with root and point at their places.
func checkQuadTree(t *testing.T, m impl.Map, root, point int) {
	t.Helper()
	tree := must[impl.Tree](t)(impl.QuadTree(m, root, point))
	if !isTree(tree) || len(tree.Word) != len(m.Turn)/2 {
		t.Fatalf("QuadTree(%v, %d, %d) = %v", m, root, point, tree)
	}
	quad, at := quadAndPoint(t)(impl.TreeQuad(tree))
	form := must[impl.Map](t)
	sameMap(t, "the form of TreeQuad", form(impl.MapForm(quad, 0)), form(impl.MapForm(m, root)))
	by := renaming(quad, m, 0, root)
	vertex, _ := cycleOf(m.Turn)
	if by == nil || vertex[by[at]] != vertex[point] {
		t.Fatalf("TreeQuad of QuadTree(%v, %d, %d) = %v is %v with the point %d", m, root, point, tree, quad, at)
	}
	if impl.MapFar(quad, at, 0) != impl.MapFar(m, point, root) {
		t.Errorf("the point of TreeQuad of QuadTree(%v, %d, %d) is at another distance", m, root, point)
	}
}

// TestRenamedQuads asks for the trees of quadrangulations whose darts have other names, which
// are the same trees from the renamed root and point.
func TestRenamedQuads(t *testing.T) {
	tree := must[impl.Tree](t)
	for _, m := range treeQuads() {
		for _, by := range somePerms(len(m.Turn)) {
			named := must[impl.Map](t)(impl.MapRename(m, by))
			for root := range by {
				point := (5*root + 3) % len(by)
				if isRoot(m, root, farDarts(m, point)) {
					sameTree(t, "QuadTree renamed", tree(impl.QuadTree(named, by[root], by[point])), tree(impl.QuadTree(m, root, point)))
				}
			}
		}
	}
}

// knownQuads returns a quadrangulation of one face, with the darts 0 and 2 at the ends of a row
// of three vertices, and one of two faces, with two edges from the vertex of 0 to that of 1 and
// one to each of two further ones, one in each face.
func knownQuads() (row, fan impl.Map) {
	return mapOf(4, "(1,3)", edgesOf(4)), mapOf(8, "(0,3,4,7)(1,5)", edgesOf(8))
}

// TestKnownQuads walks around trees that were worked out by hand.
func TestKnownQuads(t *testing.T) {
	row, fan := knownQuads()
	for _, c := range []struct {
		m           impl.Map
		root, point int
		word        string
		steps       []int
	}{
		// From the middle, both ends of the row are at the greatest distance.
		{row, 0, 1, "()", []int{0}},
		{row, 2, 3, "()", []int{0}},
		{row, 0, 3, "()", []int{0}},
		// From an end, just the other one is.
		{row, 1, 0, "()", []int{1}},
		{row, 2, 0, "()", []int{-1}},
		{row, 0, 2, "()", []int{-1}},
		{row, 3, 2, "()", []int{1}},
		{fan, 0, 5, "()()", []int{1, 1}},
		{fan, 4, 1, "()()", []int{1, 1}},
		{fan, 2, 1, "(())", []int{-1, 1}},
		{fan, 6, 5, "(())", []int{-1, 1}},
		{fan, 1, 0, "()()", []int{0, 0}},
		{fan, 5, 7, "()()", []int{0, 0}},
	} {
		got := must[impl.Tree](t)(impl.QuadTree(c.m, c.root, c.point))
		sameTree(t, "QuadTree", got, impl.Tree{Word: c.word, Steps: c.steps})
	}
}

// Promise 66: all trees.
func TestPromise66All(t *testing.T) {
	for n := 1; n <= 2; n++ {
		all := must[[]impl.Tree](t)(impl.TreeAll(n))
		want := allTrees(n)
		if len(all) != len(want) || len(all) != impl.TreesMany(n) {
			t.Fatalf("TreeAll(%d) has %d trees", n, len(all))
		}
		for i, tree := range all {
			sameTree(t, "TreeAll", tree, want[i])
			if i > 0 && compareTrees(all[i-1], tree) >= 0 {
				t.Errorf("TreeAll(%d) has %v behind %v", n, tree, all[i-1])
			}
		}
		formsOfTrees(t, all, impl.RootedPlane(n))
	}
	formsOfTrees(t, allTrees(3), 54)
}

// formsOfTrees checks how many different forms the quadrangulations of some trees have from
// the dart 0; each one is there once for each vertex that may be the point.
func formsOfTrees(t *testing.T, trees []impl.Tree, want int) {
	t.Helper()
	var forms []impl.Map
	for _, tree := range trees {
		m, _ := quadAndPoint(t)(impl.TreeQuad(tree))
		forms = append(forms, must[impl.Map](t)(impl.MapForm(m, 0)))
	}
	slices.SortFunc(forms, compareMaps)
	forms = slices.CompactFunc(forms, func(a, b impl.Map) bool { return compareMaps(a, b) == 0 })
	if len(forms) != want {
		t.Errorf("the quadrangulations of %d trees have %d forms instead of %d", len(trees), len(forms), want)
	}
}

// Promise 67: the number of trees.
func TestPromise67Many(t *testing.T) {
	for n, want := range []int{-1, 3, 18, 135, -1} {
		if got := impl.TreesMany(n); got != want {
			t.Errorf("TreesMany(%d) = %d instead of %d", n, got, want)
		}
		if want > 0 && (len(allTrees(n)) != want || 2*want != impl.RootedPlane(n)*(n+2)) {
			t.Errorf("RootedPlane of %d edges does not fit %d trees", n, want)
		}
	}
}

// someQuads returns quadrangulations of all genera and sizes.
func someQuads() []impl.Map {
	return slices.Concat(allQuads(1), allQuads(2), allQuads(3), treeQuads())
}

// Promise 68: quadrangulations of genus 0.
func TestPromise68QuadIs(t *testing.T) {
	plane := map[int]int{}
	for _, m := range append(someQuads(), sampleMaps()...) {
		want := isQuad(m) && genusOf(m) == 0
		if got := impl.QuadIs(m); got != want {
			t.Fatalf("QuadIs(%v) = %v", m, got)
		}
		if !want {
			continue
		}
		plane[len(m.Turn)]++
		counts := must[[]int](t)(impl.MapCounts(m))
		if counts[0] != counts[2]+2 {
			t.Errorf("the quadrangulation %v has %v vertices, edges and faces", m, counts)
		}
	}
	if plane[4] < 2 || plane[8] < 36 || plane[12] < 1728 {
		t.Errorf("so many quadrangulations here are of genus 0: %v", plane)
	}
	for n := 1; n <= 3; n++ {
		for _, m := range rootedQuads(n, 0) {
			nearerByOne(t, m)
			for root := range m.Turn {
				if got := must[impl.Map](t)(impl.TutteMap(m, root)); impl.MapGenus(got) != 0 {
					t.Errorf("TutteMap(%v, %d) = %v", m, root, got)
				}
			}
		}
	}
}

// nearerByOne checks that each edge of a map joins vertices of which one is nearer by 1 to each third one.
func nearerByOne(t *testing.T, m impl.Map) {
	t.Helper()
	for d, other := range m.Flip {
		for third := range m.Turn {
			if apart := impl.MapFar(m, d, third) - impl.MapFar(m, other, third); apart != 1 && apart != -1 {
				t.Errorf("%v has the edge %d, %d with distances from %d that differ by %d", m, d, other, third, apart)
			}
		}
	}
}

// tutteMaps returns all forms of rooted maps with 1 to 3 edges, and maps with other names of darts.
func tutteMaps() []impl.Map {
	var out []impl.Map
	for e := 1; e <= 3; e++ {
		out = append(out, allRooted(e, 0)...)
		out = append(out, allRooted(e, 1)...)
	}
	for _, m := range sampleMaps() {
		if len(m.Turn) <= 6 {
			out = append(out, m)
		}
	}
	return out
}

// Promise 69: the quadrangulation of a map.
func TestPromise69Tutte(t *testing.T) {
	one := must[impl.Map](t)
	list := must[[]int](t)
	for _, m := range tutteMaps() {
		quad := one(impl.TutteQuad(m))
		n := len(m.Turn)
		if len(quad.Turn) != 2*n || len(quad.Flip) != 2*n || !isQuad(quad) {
			t.Fatalf("TutteQuad(%v) = %v", m, quad)
		}
		ahead := list(impl.PermBack(list(impl.MapFaces(m))))
		for d := range n {
			if quad.Flip[2*d] != 2*d+1 || quad.Flip[2*d+1] != 2*d || quad.Turn[2*d] != 2*m.Turn[d] || quad.Turn[2*d+1] != 2*ahead[d]+1 {
				t.Errorf("TutteQuad(%v) = %v is wrong at %d", m, quad, d)
			}
		}
		counts, quadCounts := list(impl.MapCounts(m)), list(impl.MapCounts(quad))
		sameList(t, "MapCounts of TutteQuad", quadCounts, []int{counts[0] + counts[2], n, n / 2})
		if impl.MapGenus(quad) != impl.MapGenus(m) || impl.QuadIs(quad) != (impl.MapGenus(m) == 0) {
			t.Errorf("TutteQuad(%v) = %v is of the genus %d", m, quad, impl.MapGenus(quad))
		}
		mirror := one(impl.MapMirror(one(impl.MapDual(m))))
		for d := range n {
			sameMap(t, "TutteMap of TutteQuad from an even dart", one(impl.TutteMap(quad, 2*d)), m)
			back := one(impl.TutteMap(quad, 2*d+1))
			if renamings(back, mirror) == 0 || !impl.MapSame(back, mirror) {
				t.Errorf("TutteMap of TutteQuad(%v) from %d is %v and not the mirror of the dual", m, 2*d+1, back)
			}
		}
	}
}

// TestKnownTutte holds TutteQuad and TutteMap against what was worked out by hand, for maps
// with loops, with bridges, and with both.
func TestKnownTutte(t *testing.T) {
	one := must[impl.Map](t)
	for _, c := range []struct {
		m          impl.Map
		quad, from string // the Turn of the quadrangulation, and of TutteMap of it from the dart 1
	}{
		{mapOf(2, "()", "(0,1)"), "(1,3)", "(0,1)"},
		{mapOf(2, "(0,1)", "(0,1)"), "(0,2)", "()"},
		{mapOf(4, "(0,1,2,3)", "(0,2)(1,3)"), "(0,2,4,6)(1,3,5,7)", "(0,1,2,3)"},
		{mapOf(4, "(0,1,2)", "(0,1)(2,3)"), "(0,2,4)(1,7,5)", "(0,3,2)"},
		{mapOf(4, "(1,2)", "(0,1)(2,3)"), "(1,3,7,5)(2,4)", "(0,1,3,2)"},
		{mapOf(6, "(0,1,2)(3,4,5)", "(0,1)(2,3)(4,5)"), "(0,2,4)(1,7,9,5)(6,8,10)", "(0,3,4,2)"},
		{mapOf(6, "(0,5)(1,2)(3,4)", "(0,1)(2,3)(4,5)"), "(0,10)(1,9,5)(2,4)(3,7,11)(6,8)", "(0,4,2)(1,3,5)"},
	} {
		n := len(c.m.Turn)
		quad := one(impl.TutteQuad(c.m))
		sameMap(t, "TutteQuad", quad, mapOf(2*n, c.quad, edgesOf(2*n)))
		sameMap(t, "TutteMap from 0", one(impl.TutteMap(quad, 0)), c.m)
		sameList(t, "the Turn of TutteMap from 1", one(impl.TutteMap(quad, 1)).Turn, mapOf(n, c.from, edgesOf(n)).Turn)
	}
	row, fan := knownQuads()
	for root, turn := range []string{"()", "(0,1)", "()", "(0,1)"} {
		sameMap(t, "TutteMap of a row", one(impl.TutteMap(row, root)), mapOf(2, turn, "(0,1)"))
	}
	sameMap(t, "TutteMap of a fan", one(impl.TutteMap(fan, 0)), mapOf(4, "(0,1,2,3)", "(0,1)(2,3)"))
}

// Promise 70: the map of a quadrangulation, for all of them from all roots.
func TestPromise70TutteMap(t *testing.T) {
	one := must[impl.Map](t)
	for n := 1; n <= 3; n++ {
		for g := range 3 {
			many := 0
			for _, m := range rootedQuads(n, g) {
				for root := range m.Turn {
					far := farDarts(m, root)
					if !alternate(m, far) {
						failsMap(t, "TutteMap")(impl.TutteMap(m, root))
						continue
					}
					many++
					got := one(impl.TutteMap(m, root))
					sameMap(t, "TutteMap", got, tutteOf(m, far))
					if !impl.MapValid(got) || impl.MapGenus(got) != g || len(got.Turn) != 2*n {
						t.Fatalf("TutteMap(%v, %d) = %v", m, root, got)
					}
					if quad := one(impl.TutteQuad(got)); !impl.MapSame(quad, m) || renamings(quad, m) == 0 {
						t.Errorf("TutteQuad of TutteMap(%v, %d) is %v", m, root, quad)
					}
				}
			}
			// Each rooted map has one rooted quadrangulation, and this 4 n darts.
			if want := atOrZero(rootedRows()[n], g) * 4 * n; many != want {
				t.Errorf("TutteMap succeeds for %d roots of %d faces and the genus %d", many, n, g)
			}
		}
	}
}

// alternate tells whether each edge has one dart at an even distance.
func alternate(m impl.Map, far []int) bool {
	for d, other := range m.Flip {
		if (far[d]+far[other])%2 == 0 {
			return false
		}
	}
	return true
}

// tutteOf returns the map of a quadrangulation by the darts at an even distance, of which there
// are two in each face.
func tutteOf(m impl.Map, far []int) impl.Map {
	var even []int
	for d, x := range far {
		if x%2 == 0 {
			even = append(even, d)
		}
	}
	out := impl.Map{}
	for _, d := range even {
		out.Turn = append(out.Turn, slices.Index(even, m.Turn[d]))
		for i, other := range even {
			// Two steps through a face are Flip and Turn, twice.
			if m.Turn[other] == m.Turn[m.Flip[m.Turn[m.Flip[m.Turn[d]]]]] {
				out.Flip = append(out.Flip, i)
			}
		}
	}
	return out
}
