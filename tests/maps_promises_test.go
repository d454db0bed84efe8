package tests

import (
	"slices"
	"testing"

	"loop.example/surfacemaps/impl"
)

// TestKnownMaps holds all functions that tell of one map against what was worked out by hand.
func TestKnownMaps(t *testing.T) {
	list := must[[]int](t)
	for _, k := range knownMaps() {
		if !impl.MapValid(k.m) {
			t.Fatalf("%s is no map", k.name)
		}
		if got := impl.PermText(list(impl.MapFaces(k.m))); got != k.faces {
			t.Errorf("%s has the faces %s instead of %s", k.name, got, k.faces)
		}
		sameList(t, "MapCounts of "+k.name, list(impl.MapCounts(k.m)), k.counts)
		sameList(t, "MapDegrees of "+k.name, list(impl.MapDegrees(k.m)), k.degrees)
		if got := impl.MapGenus(k.m); got != k.genus {
			t.Errorf("%s has the genus %d instead of %d", k.name, got, k.genus)
		}
		if got := impl.MapTurns(k.m); got != k.turns {
			t.Errorf("MapTurns of %s is %d instead of %d", k.name, got, k.turns)
		}
	}
}

// Promise 12: maps. The three permutations move nothing in the order Turn that leads
// back, Flip, MapFaces: MapFaces does Flip and then Turn.
func TestPromise12Valid(t *testing.T) {
	list := must[[]int](t)
	for _, m := range sampleMaps() {
		if !impl.MapValid(m) {
			t.Fatalf("MapValid(%v) does not hold", m)
		}
		if counts := list(impl.MapCounts(m)); len(m.Turn) != 2*counts[1] || len(m.Flip) != len(m.Turn) {
			t.Errorf("MapCounts(%v) = %v", m, counts)
		}
		sameList(t, "PermOrbits of a map", list(impl.PermOrbits(m.Turn, m.Flip)), make([]int, len(m.Turn)))
		back := list(impl.PermBack(m.Turn))
		nothing := list(impl.PermMul(list(impl.PermMul(back, m.Flip)), list(impl.MapFaces(m))))
		sameList(t, "Turn back, Flip and MapFaces", nothing, stay(len(m.Turn)))
	}
}

// Promise 13: faces.
func TestPromise13Faces(t *testing.T) {
	list := must[[]int](t)
	for _, m := range sampleMaps() {
		faces := list(impl.MapFaces(m))
		if !impl.PermValid(faces) || len(faces) != len(m.Turn) {
			t.Fatalf("MapFaces(%v) = %v", m, faces)
		}
		vertex, vertices := cycleOf(m.Turn)
		_, many := cycleOf(faces)
		sameList(t, "MapCounts", list(impl.MapCounts(m)), []int{vertices, len(m.Flip) / 2, many})
		for d, x := range faces {
			if x != m.Turn[m.Flip[d]] || vertex[x] != vertex[m.Flip[d]] {
				t.Errorf("MapFaces(%v) = %v takes %d elsewhere than Flip and then Turn", m, faces, d)
			}
		}
	}
}

// Promise 14: the genus.
func TestPromise14Genus(t *testing.T) {
	list := must[[]int](t)
	one := must[impl.Map](t)
	most := map[int]int{}
	for _, m := range sampleMaps() {
		genus := impl.MapGenus(m)
		counts := list(impl.MapCounts(m))
		if genus < 0 || 2*genus > counts[1] || counts[0]-counts[1]+counts[2] != 2-2*genus {
			t.Errorf("MapGenus(%v) = %d with %v", m, genus, counts)
		}
		others := []impl.Map{one(impl.MapDual(m)), one(impl.MapMirror(m))}
		for d := range m.Turn {
			others = append(others, one(impl.MapForm(m, d)))
		}
		for _, other := range others {
			if got := impl.MapGenus(other); got != genus {
				t.Errorf("MapGenus(%v) = %d, but %d for %v", other, got, genus, m)
			}
		}
		most[len(m.Turn)] = max(most[len(m.Turn)], genus)
	}
	for n := 2; n <= impl.PointsMax; n += 2 {
		if most[n] != n/4 {
			t.Errorf("the greatest genus of all maps of %d darts here is %d", n, most[n])
		}
	}
}

// Promise 15: dual maps.
func TestPromise15Dual(t *testing.T) {
	list := must[[]int](t)
	one := must[impl.Map](t)
	for _, m := range sampleMaps() {
		dual := one(impl.MapDual(m))
		sameMap(t, "MapDual", dual, impl.Map{Turn: list(impl.MapFaces(m)), Flip: m.Flip})
		sameMap(t, "MapDual twice", one(impl.MapDual(dual)), m)
		counts := list(impl.MapCounts(m))
		slices.Reverse(counts)
		sameList(t, "MapCounts of the dual", list(impl.MapCounts(dual)), counts)
		for _, by := range somePerms(len(m.Turn)) {
			sameMap(t, "MapDual renamed", one(impl.MapRename(dual, by)), one(impl.MapDual(one(impl.MapRename(m, by)))))
		}
	}
	loop, bridge := mapOf(2, "(0,1)", "(0,1)"), mapOf(2, "()", "(0,1)")
	sameMap(t, "MapDual of a loop", one(impl.MapDual(loop)), bridge)
	sameMap(t, "MapDual of a bridge", one(impl.MapDual(bridge)), loop)
}

// Promise 16: mirrors.
func TestPromise16Mirror(t *testing.T) {
	list := must[[]int](t)
	one := must[impl.Map](t)
	for _, m := range sampleMaps() {
		mirror := one(impl.MapMirror(m))
		sameMap(t, "MapMirror", mirror, impl.Map{Turn: list(impl.PermBack(m.Turn)), Flip: m.Flip})
		sameMap(t, "MapMirror twice", one(impl.MapMirror(mirror)), m)
		sameList(t, "MapCounts of the mirror", list(impl.MapCounts(mirror)), list(impl.MapCounts(m)))
		sameList(t, "MapDegrees of the mirror", list(impl.MapDegrees(mirror)), list(impl.MapDegrees(m)))
	}
	rows := mapOf(12, "(0,2,6)(3,4)(7,8)(9,10)", edges6)
	mirror := one(impl.MapMirror(rows))
	sameMap(t, "MapMirror", mirror, mapOf(12, "(0,6,2)(3,4)(7,8)(9,10)", edges6))
	if impl.MapSame(rows, mirror) {
		t.Error("a map whose rows of bridges go round the other way in the mirror is the same as this")
	}
}

// Promise 17: renaming.
func TestPromise17Rename(t *testing.T) {
	list := must[[]int](t)
	one := must[impl.Map](t)
	for _, m := range sampleMaps() {
		for _, by := range somePerms(len(m.Turn)) {
			named := one(impl.MapRename(m, by))
			if len(named.Turn) != len(by) || len(named.Flip) != len(by) || !renames(m, named, by) {
				t.Fatalf("MapRename(%v, %v) = %v", m, by, named)
			}
			if !impl.MapSame(m, named) || !impl.MapSame(named, m) {
				t.Errorf("%v is not the same as renamed by %v", m, by)
			}
			sameMap(t, "renaming back", one(impl.MapRename(named, list(impl.PermBack(by)))), m)
			for d := range by {
				sameMap(t, "MapForm of the renamed dart", one(impl.MapForm(named, by[d])), one(impl.MapForm(m, d)))
			}
		}
	}
	sameMap(t, "MapRename", one(impl.MapRename(mapOf(4, "(0,1,2)", "(0,1)(2,3)"), []int{1, 2, 3, 0})), mapOf(4, "(1,2,3)", "(0,3)(1,2)"))
}

// inOrder tells whether the names of a map are found one after the other, if Turn and
// Flip of the darts are looked at in the order of their names.
func inOrder(m impl.Map) bool {
	found := 0
	for d := range m.Turn {
		for _, x := range []int{m.Turn[d], m.Flip[d]} {
			if x > found+1 {
				return false
			}
			found = max(found, x)
		}
	}
	return true
}

// Promise 18: forms. That a form is the map renamed, and that its names are in order,
// leaves no choice.
func TestPromise18Form(t *testing.T) {
	one := must[impl.Map](t)
	for _, m := range sampleMaps() {
		for d := range m.Turn {
			form := one(impl.MapForm(m, d))
			if !impl.MapValid(form) || !impl.MapSame(m, form) || renaming(m, form, d, 0) == nil || !inOrder(form) {
				t.Fatalf("MapForm(%v, %d) = %v", m, d, form)
			}
			sameMap(t, "MapForm of a form", one(impl.MapForm(form, 0)), form)
			next := form.Turn[0]
			if next == 0 {
				next = form.Flip[0]
			}
			if next != 1 {
				t.Errorf("MapForm(%v, %d) = %v has a wrong dart 1", m, d, form)
			}
		}
	}
	rows := mapOf(12, "(0,2,6)(3,4)(7,8)(9,10)", edges6)
	sameMap(t, "MapForm", one(impl.MapForm(rows, 4)), mapOf(12, "(0,1)(3,4,5)(6,8)(9,10)", "(0,2)(1,3)(4,6)(5,7)(8,9)(10,11)"))
	sameMap(t, "MapForm", one(impl.MapForm(rows, 11)), mapOf(12, "(1,2)(3,4)(5,6,7)(9,10)", "(0,1)(2,3)(4,5)(6,8)(7,9)(10,11)"))
	tail := mapOf(4, "(0,1,2)", "(0,1)(2,3)")
	sameMap(t, "MapForm of a loop's dart", one(impl.MapForm(tail, 0)), mapOf(4, "(0,1,2)", "(0,1)(2,3)"))
	sameMap(t, "MapForm of a loop's other dart", one(impl.MapForm(tail, 1)), mapOf(4, "(0,1,2)", "(0,2)(1,3)"))
	sameMap(t, "MapForm of a bridge's dart", one(impl.MapForm(tail, 2)), mapOf(4, "(0,1,3)", "(0,2)(1,3)"))
	sameMap(t, "MapForm of a bridge's other dart", one(impl.MapForm(tail, 3)), mapOf(4, "(1,2,3)", "(0,1)(2,3)"))
}

// Promise 19: maps that are the same.
func TestPromise19Same(t *testing.T) {
	list := must[[]int](t)
	one := must[impl.Map](t)
	alike := 0
	few := fewMaps()
	for _, a := range few {
		for _, b := range few {
			same := impl.MapSame(a, b)
			if want := renamings(a, b) > 0; same != want {
				t.Fatalf("MapSame(%v, %v) = %v", a, b, same)
			}
			if impl.MapSame(b, a) != same {
				t.Errorf("MapSame does not hold for %v and %v exchanged", a, b)
			}
			if equal := compareMaps(one(impl.MapLeast(a)), one(impl.MapLeast(b))) == 0; equal != same {
				t.Errorf("MapSame of %v and %v is %v, but MapLeast equal: %v", a, b, same, equal)
			}
			if !same {
				continue
			}
			alike++
			sameList(t, "MapCounts of maps that are the same", list(impl.MapCounts(a)), list(impl.MapCounts(b)))
			sameList(t, "MapDegrees of maps that are the same", list(impl.MapDegrees(a)), list(impl.MapDegrees(b)))
			if impl.MapTurns(a) != impl.MapTurns(b) || !impl.MapSame(one(impl.MapDual(a)), one(impl.MapDual(b))) {
				t.Errorf("%v and %v are the same, but not their duals or their MapTurns", a, b)
			}
		}
	}
	if alike < 2*len(few) {
		t.Errorf("only %d pairs of maps here are the same", alike)
	}
}

// TestSameCounts asks maps that differ, but not in their counts and degrees.
func TestSameCounts(t *testing.T) {
	ahead := mapOf(12, "(0,2,6)(3,4)(7,8)(9,10)", edges6)
	other := mapOf(12, "(0,6,2)(3,4)(7,8)(9,10)", edges6)
	if impl.MapSame(ahead, other) || impl.MapSame(other, ahead) {
		t.Error("two trees whose branches follow in opposite order are the same")
	}
	// Two loops beside each other with a bridge between both, or on one side.
	inside := mapOf(6, "(0,1,2,3,4)", "(0,1)(2,3)(4,5)")
	across := mapOf(6, "(0,1,4,2,3)", "(0,1)(2,3)(4,5)")
	if !impl.MapSame(inside, across) {
		t.Error("two loops with a bridge to the left or to the right of both are not the same")
	}
	nested := mapOf(6, "(0,2,3,1,4)", "(0,1)(2,3)(4,5)")
	if impl.MapSame(inside, nested) || impl.MapGenus(nested) != 0 {
		t.Error("two loops beside each other and one in the other are the same")
	}
}

// Promise 20: renamings without a change.
func TestPromise20Turns(t *testing.T) {
	one := must[impl.Map](t)
	for _, m := range sampleMaps() {
		turns := impl.MapTurns(m)
		if want := renamings(m, m); turns != want || turns < 1 || len(m.Turn)%turns != 0 {
			t.Fatalf("MapTurns(%v) = %d instead of %d", m, turns, want)
		}
		if got := impl.MapTurns(one(impl.MapDual(m))); got != turns {
			t.Errorf("MapTurns(%v) = %d, but %d of the dual", m, turns, got)
		}
		var forms []impl.Map
		for d := range m.Turn {
			form := one(impl.MapForm(m, d))
			if !slices.ContainsFunc(forms, func(f impl.Map) bool { return compareMaps(f, form) == 0 }) {
				forms = append(forms, form)
			}
		}
		if len(forms)*turns != len(m.Turn) {
			t.Errorf("MapTurns(%v) = %d with %d forms", m, turns, len(forms))
		}
	}
	// All permutations of darts of small maps, one by one.
	for _, m := range sampleMaps() {
		if len(m.Turn) > 4 {
			break
		}
		many := 0
		for _, by := range allPerms(len(m.Turn)) {
			if renames(m, m, by) {
				many++
			}
		}
		if got := impl.MapTurns(m); got != many {
			t.Errorf("MapTurns(%v) = %d instead of %d", m, got, many)
		}
	}
}

// Promise 21: least forms.
func TestPromise21Least(t *testing.T) {
	one := must[impl.Map](t)
	equalTurns := 0
	for _, m := range sampleMaps() {
		least := one(impl.MapLeast(m))
		sameMap(t, "MapLeast of MapLeast", one(impl.MapLeast(least)), least)
		from := false
		for d := range m.Turn {
			form := one(impl.MapForm(m, d))
			if compareMaps(form, least) < 0 {
				t.Fatalf("MapLeast(%v) = %v, but %v comes ahead", m, least, form)
			}
			from = from || compareMaps(form, least) == 0
			if slices.Equal(form.Turn, least.Turn) && !slices.Equal(form.Flip, least.Flip) {
				equalTurns++
			}
		}
		if !from {
			t.Errorf("MapLeast(%v) = %v is no form of it", m, least)
		}
		for _, by := range somePerms(len(m.Turn)) {
			sameMap(t, "MapLeast of a renamed map", one(impl.MapLeast(one(impl.MapRename(m, by)))), least)
		}
	}
	if equalTurns == 0 {
		t.Error("no two forms of a map here differ in their Flips alone")
	}
	// From each dart of the loop another form, the first one by Turn from the bridge's end.
	tail := mapOf(4, "(0,1,2)", "(0,1)(2,3)")
	sameMap(t, "MapLeast", one(impl.MapLeast(tail)), mapOf(4, "(1,2,3)", "(0,1)(2,3)"))
}

// Promise 22: degrees.
func TestPromise22Degrees(t *testing.T) {
	list := must[[]int](t)
	one := must[impl.Map](t)
	for _, m := range sampleMaps() {
		degrees := list(impl.MapDegrees(m))
		counts := list(impl.MapCounts(m))
		vertex, vertices := cycleOf(m.Turn)
		want := make([]int, vertices)
		for _, v := range vertex {
			want[v]++
		}
		slices.SortFunc(want, func(a, b int) int { return b - a })
		sameList(t, "MapDegrees", degrees, want)
		sum := 0
		for _, x := range degrees {
			sum += x
		}
		if sum != 2*counts[1] || len(degrees) != counts[0] || len(list(impl.MapDegrees(one(impl.MapDual(m))))) != counts[2] {
			t.Errorf("MapDegrees(%v) = %v with %v", m, degrees, counts)
		}
	}
}

// farAll returns the distances of all vertices from each other, by ways over each third one.
func farAll(m impl.Map) [][]int {
	vertex, vertices := cycleOf(m.Turn)
	far := make([][]int, vertices)
	for v := range far {
		far[v] = slices.Repeat([]int{99}, vertices)
		far[v][v] = 0
	}
	for d, x := range m.Flip {
		if vertex[d] != vertex[x] {
			far[vertex[d]][vertex[x]] = 1
		}
	}
	for over := range far {
		for v := range far {
			for w := range far {
				far[v][w] = min(far[v][w], far[v][over]+far[over][w])
			}
		}
	}
	return far
}

// Promise 23: distances.
func TestPromise23Far(t *testing.T) {
	for _, m := range sampleMaps() {
		vertex, vertices := cycleOf(m.Turn)
		far := farAll(m)
		for a := range m.Turn {
			if impl.MapFar(m, a, m.Turn[a]) != 0 || impl.MapFar(m, a, m.Flip[a]) > 1 {
				t.Errorf("MapFar of %v is wrong from %d to its Turn or its Flip", m, a)
			}
			for b := range m.Turn {
				got := impl.MapFar(m, a, b)
				if got != far[vertex[a]][vertex[b]] || got != impl.MapFar(m, b, a) || got < 0 || got >= vertices {
					t.Fatalf("MapFar(%v, %d, %d) = %d", m, a, b, got)
				}
				for c := range m.Turn {
					if len(m.Turn) <= 4 && got > impl.MapFar(m, a, c)+impl.MapFar(m, c, b) {
						t.Errorf("MapFar(%v, %d, %d) = %d is less over %d", m, a, b, got, c)
					}
				}
			}
		}
	}
}

// TestKnownFar asks distances that were worked out by hand.
func TestKnownFar(t *testing.T) {
	row := mapOf(12, "(1,2)(3,4)(5,6)(7,8)(9,10)", edges6)
	ring := mapOf(12, "(0,11)(1,2)(3,4)(5,6)(7,8)(9,10)", edges6)
	for d := range 12 {
		if got := impl.MapFar(row, 0, d); got != (d+1)/2 {
			t.Errorf("MapFar from 0 to %d in a row of bridges is %d", d, got)
		}
		around := (d + 1) / 2 % 6
		if got := impl.MapFar(ring, 0, d); got != min(around, 6-around) {
			t.Errorf("MapFar from 0 to %d in a ring is %d", d, got)
		}
	}
	loops := mapOf(6, "(0,1,2)(3,4,5)", "(0,1)(2,3)(4,5)")
	for _, c := range [][3]int{{0, 0, 0}, {0, 1, 0}, {4, 5, 0}, {0, 2, 0}, {2, 3, 1}, {0, 5, 1}, {5, 0, 1}} {
		if got := impl.MapFar(loops, c[0], c[1]); got != c[2] {
			t.Errorf("MapFar from %d to %d with a bridge between loops is %d", c[0], c[1], got)
		}
	}
	if impl.MapFar(mapOf(2, "(0,1)", "(0,1)"), 0, 1) != 0 || impl.MapFar(mapOf(2, "()", "(0,1)"), 1, 0) != 1 {
		t.Error("MapFar is wrong for one edge")
	}
}
