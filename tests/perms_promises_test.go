package tests

import (
	"slices"
	"testing"

	"loop.example/surfacemaps/impl"
)

// Promise 1: products.
func TestPromise1Mul(t *testing.T) {
	list := must[[]int](t)
	pairsOf(func(a, b []int) {
		ab := list(impl.PermMul(a, b))
		if len(ab) != len(a) || !impl.PermValid(ab) {
			t.Fatalf("PermMul(%v, %v) = %v is no permutation of as many points", a, b, ab)
		}
		for i := range a {
			if ab[i] != b[a[i]] {
				t.Fatalf("PermMul(%v, %v) = %v takes %d elsewhere than first %v and then %v", a, b, ab, i, a, b)
			}
		}
		sameList(t, "PermBack of a product", list(impl.PermBack(ab)), list(impl.PermMul(list(impl.PermBack(b)), list(impl.PermBack(a)))))
		if impl.PermSign(ab) != impl.PermSign(a)*impl.PermSign(b) {
			t.Errorf("PermSign of the product of %v and %v is not the product of the signs", a, b)
		}
		for _, c := range [][]int{a, b, list(impl.PermBack(a)), stay(len(a))} {
			sameList(t, "three permutations", list(impl.PermMul(ab, c)), list(impl.PermMul(a, list(impl.PermMul(b, c)))))
		}
	})
	for _, a := range allPerms(3) {
		for _, b := range allPerms(3) {
			for _, c := range allPerms(3) {
				sameList(t, "three permutations", list(impl.PermMul(list(impl.PermMul(a, b)), c)), list(impl.PermMul(a, list(impl.PermMul(b, c)))))
			}
		}
	}
	sameList(t, "PermMul", list(impl.PermMul([]int{1, 2, 0}, []int{1, 0, 2})), []int{0, 2, 1})
	sameList(t, "PermMul", list(impl.PermMul([]int{1, 0, 2}, []int{1, 2, 0})), []int{2, 1, 0})
}

// Promise 2: what leads back.
func TestPromise2Back(t *testing.T) {
	list := must[[]int](t)
	for _, p := range samplePerms() {
		back := list(impl.PermBack(p))
		if len(back) != len(p) {
			t.Fatalf("PermBack(%v) = %v", p, back)
		}
		for i := range p {
			if back[p[i]] != i {
				t.Fatalf("PermBack(%v) = %v does not lead %d back", p, back, p[i])
			}
		}
		sameList(t, "PermBack twice", list(impl.PermBack(back)), p)
		sameList(t, "PermMul with PermBack", list(impl.PermMul(p, back)), stay(len(p)))
		sameList(t, "PermMul of PermBack", list(impl.PermMul(back, p)), stay(len(p)))
		sameList(t, "PermType of PermBack", list(impl.PermType(back)), list(impl.PermType(p)))
	}
	sameList(t, "PermBack", list(impl.PermBack([]int{1, 2, 0, 3})), []int{2, 0, 1, 3})
}

// stepped does a permutation k times, one after the other; for a negative k what leads back.
func stepped(p []int, k int) []int {
	r := stay(len(p))
	for ; k > 0; k-- {
		for i, x := range r {
			r[i] = p[x]
		}
	}
	for ; k < 0; k++ {
		for i, x := range r {
			r[i] = slices.Index(p, x)
		}
	}
	return r
}

// Promise 3: powers, with both ends of their range.
func TestPromise3Power(t *testing.T) {
	list := must[[]int](t)
	for _, p := range samplePerms() {
		order := impl.PermOrder(p)
		for _, k := range []int{-1000, -999, -61, -7, -2, -1, 0, 1, 2, 3, 5, 60, 500, 939, 940, 941, 999, 1000} {
			power := list(impl.PermPower(p, k))
			sameList(t, "PermPower", power, stepped(p, k))
			if k+order <= 1000 {
				sameList(t, "PermPower by the order more", list(impl.PermPower(p, k+order)), power)
			}
			if k < 1000 {
				sameList(t, "PermPower by 1 more", list(impl.PermPower(p, k+1)), list(impl.PermMul(power, p)))
			}
		}
		sameList(t, "PermPower by 0", list(impl.PermPower(p, 0)), stay(len(p)))
		sameList(t, "PermPower by 1", list(impl.PermPower(p, 1)), p)
		sameList(t, "PermPower by -1", list(impl.PermPower(p, -1)), list(impl.PermBack(p)))
	}
	turn := []int{1, 2, 3, 4, 5, 6, 0}
	sameList(t, "PermPower by 1000", list(impl.PermPower(turn, 1000)), []int{6, 0, 1, 2, 3, 4, 5})
	sameList(t, "PermPower by -1000", list(impl.PermPower(turn, -1000)), []int{1, 2, 3, 4, 5, 6, 0})
}

// Promise 4: cycles, with points that stay where they are.
func TestPromise4Cycles(t *testing.T) {
	lists := must[[][]int](t)
	for _, p := range samplePerms() {
		cycles := lists(impl.PermCycles(p))
		seen := map[int]bool{}
		last := -1
		for _, c := range cycles {
			if len(c) == 0 || c[0] != slices.Min(c) || c[0] <= last {
				t.Fatalf("PermCycles(%v) = %v has a cycle that does not begin with its least point, or first points that do not ascend", p, cycles)
			}
			last = c[0]
			for i, x := range c {
				if seen[x] || p[x] != c[(i+1)%len(c)] {
					t.Fatalf("PermCycles(%v) = %v has a point twice or one that goes elsewhere", p, cycles)
				}
				seen[x] = true
			}
		}
		if len(seen) != len(p) {
			t.Errorf("PermCycles(%v) = %v has not all points", p, cycles)
		}
	}
	sameLists(t, "PermCycles", lists(impl.PermCycles([]int{2, 1, 3, 0, 5, 4})), [][]int{{0, 2, 3}, {1}, {4, 5}})
	sameLists(t, "PermCycles of one point", lists(impl.PermCycles([]int{0})), [][]int{{0}})
	sameLists(t, "PermCycles of points that stay", lists(impl.PermCycles(stay(3))), [][]int{{0}, {1}, {2}})
}

// Promise 5: types.
func TestPromise5Type(t *testing.T) {
	list := must[[]int](t)
	lists := must[[][]int](t)
	for _, p := range samplePerms() {
		lengths := list(impl.PermType(p))
		cycles := lists(impl.PermCycles(p))
		sum := 0
		for i, x := range lengths {
			sum += x
			if x < 1 || i > 0 && x > lengths[i-1] {
				t.Errorf("PermType(%v) = %v rises", p, lengths)
			}
		}
		if sum != len(p) || len(lengths) != len(cycles) {
			t.Errorf("PermType(%v) = %v has a wrong sum or length", p, lengths)
		}
		var want []int
		for _, c := range cycles {
			want = append(want, len(c))
		}
		slices.SortFunc(want, func(a, b int) int { return b - a })
		sameList(t, "PermType", lengths, want)
	}
	pairsOf(func(p, by []int) {
		sameList(t, "PermType of PermConj", list(impl.PermType(list(impl.PermConj(p, by)))), list(impl.PermType(p)))
	})
	sameList(t, "PermType", list(impl.PermType([]int{0, 2, 1, 4, 5, 3, 6})), []int{3, 2, 1, 1})
	sameList(t, "PermType of one point", list(impl.PermType([]int{0})), []int{1})
	sameList(t, "PermType of one cycle", list(impl.PermType([]int{1, 2, 3, 4, 5, 6, 7, 8, 9, 10, 11, 0})), []int{12})
}

// Promise 6: orders.
func TestPromise6Order(t *testing.T) {
	list := must[[]int](t)
	for _, p := range samplePerms() {
		order := impl.PermOrder(p)
		if order < 1 || order > 1000 {
			t.Fatalf("PermOrder(%v) = %d", p, order)
		}
		sameList(t, "PermPower by PermOrder", list(impl.PermPower(p, order)), stay(len(p)))
		lengths := list(impl.PermType(p))
		for k := 1; k <= order; k++ {
			all := true
			for _, x := range lengths {
				all = all && k%x == 0
			}
			if all != (k == order) {
				t.Errorf("PermOrder(%v) = %d, but for %d all lengths divide: %v", p, order, k, all)
			}
		}
	}
	for _, c := range []struct {
		p    []int
		want int
	}{
		{[]int{0}, 1},
		{stay(12), 1},
		{[]int{1, 0}, 2},
		{[]int{1, 0, 3, 2}, 2},
		{[]int{1, 2, 0, 4, 3}, 6},
		{[]int{1, 2, 3, 0, 5, 6, 7, 8, 9, 4}, 12},
		{[]int{1, 2, 0, 4, 5, 6, 3, 8, 9, 10, 11, 7}, 60},
		{[]int{1, 2, 3, 4, 5, 6, 7, 8, 9, 10, 11, 0}, 12},
	} {
		if got := impl.PermOrder(c.p); got != c.want {
			t.Errorf("PermOrder(%v) = %d instead of %d", c.p, got, c.want)
		}
	}
}

// Promise 7: signs, by the pairs of points whose order is turned round.
func TestPromise7Sign(t *testing.T) {
	for _, p := range samplePerms() {
		turned := 0
		for i := range p {
			for k := range i {
				if p[k] > p[i] {
					turned++
				}
			}
		}
		want := 1 - turned%2*2
		if got := impl.PermSign(p); got != want {
			t.Errorf("PermSign(%v) = %d instead of %d", p, got, want)
		}
	}
	if impl.PermSign([]int{0}) != 1 || impl.PermSign([]int{1, 0}) != -1 || impl.PermSign([]int{1, 2, 0}) != 1 {
		t.Error("PermSign of one point, an exchange or a cycle of three is wrong")
	}
}

// Promise 8: renaming.
func TestPromise8Conj(t *testing.T) {
	list := must[[]int](t)
	pairsOf(func(p, by []int) {
		named := list(impl.PermConj(p, by))
		if len(named) != len(p) {
			t.Fatalf("PermConj(%v, %v) = %v", p, by, named)
		}
		for i := range p {
			if named[by[i]] != by[p[i]] {
				t.Fatalf("PermConj(%v, %v) = %v takes %d to %d", p, by, named, by[i], named[by[i]])
			}
		}
		back := list(impl.PermBack(by))
		sameList(t, "PermConj back", list(impl.PermConj(named, back)), p)
		sameList(t, "PermConj by products", named, list(impl.PermMul(list(impl.PermMul(back, p)), by)))
		for _, q := range [][]int{by, back, list(impl.PermMul(p, by))} {
			sameList(t, "PermConj of a product",
				list(impl.PermConj(list(impl.PermMul(p, q)), by)),
				list(impl.PermMul(named, list(impl.PermConj(q, by)))))
		}
	})
	sameList(t, "PermConj", list(impl.PermConj([]int{1, 0, 2, 3}, []int{1, 2, 3, 0})), []int{0, 2, 1, 3})
	sameList(t, "PermConj of one point", list(impl.PermConj([]int{0}, []int{0})), []int{0})
}

// leastReached returns the least point of all that can be reached from one, by
// both permutations and by what leads back from them.
func leastReached(a, b []int, from int) int {
	seen := make([]bool, len(a))
	seen[from] = true
	for range a {
		for x := range a {
			for _, y := range []int{a[x], b[x]} {
				if seen[x] || seen[y] {
					seen[x], seen[y] = true, true
				}
			}
		}
	}
	return slices.Index(seen, true)
}

// Promise 9: orbits.
func TestPromise9Orbits(t *testing.T) {
	list := must[[]int](t)
	pairsOf(func(a, b []int) {
		orbits := list(impl.PermOrbits(a, b))
		if len(orbits) != len(a) {
			t.Fatalf("PermOrbits(%v, %v) = %v", a, b, orbits)
		}
		for i, x := range orbits {
			if x != leastReached(a, b, i) || orbits[a[i]] != x || orbits[b[i]] != x {
				t.Fatalf("PermOrbits(%v, %v) = %v is wrong at %d", a, b, orbits, i)
			}
		}
		sameList(t, "PermOrbits of both exchanged", list(impl.PermOrbits(b, a)), orbits)
	})
	for _, p := range samplePerms() {
		want := make([]int, len(p))
		for _, c := range must[[][]int](t)(impl.PermCycles(p)) {
			for _, x := range c {
				want[x] = c[0]
			}
		}
		sameList(t, "PermOrbits with nothing moved", list(impl.PermOrbits(p, stay(len(p)))), want)
		sameList(t, "PermOrbits with itself", list(impl.PermOrbits(p, p)), want)
	}
	// A chain of exchanges that goes down by a point at a time.
	sameList(t, "PermOrbits", list(impl.PermOrbits(
		[]int{1, 0, 3, 2, 5, 4, 7, 6, 9, 8, 11, 10},
		[]int{0, 2, 1, 4, 3, 6, 5, 8, 7, 10, 9, 11})), make([]int, 12))
	sameList(t, "PermOrbits", list(impl.PermOrbits(
		[]int{0, 1, 5, 3, 4, 2}, []int{0, 4, 2, 3, 1, 5})), []int{0, 1, 2, 3, 1, 2})
	sameList(t, "PermOrbits of one point", list(impl.PermOrbits([]int{0}, []int{0})), []int{0})
}

// Promise 10: texts of permutations.
func TestPromise10Text(t *testing.T) {
	list := must[[]int](t)
	for _, p := range samplePerms() {
		text := impl.PermText(p)
		if text == "" {
			t.Fatalf("PermText(%v) is empty", p)
		}
		sameList(t, "PermFrom "+text, list(impl.PermFrom(len(p), text)), p)
		longer, ok := impl.PermFrom(len(p)+1, text)
		if len(p) < impl.PointsMax {
			if !ok {
				t.Fatalf("PermFrom fails with %s and a point more", text)
			}
			sameList(t, "PermFrom with a point more", longer, append(slices.Clone(p), len(p)))
		} else if ok || len(longer) != 0 {
			t.Errorf("PermFrom of more than PointsMax points returned %v", longer)
		}
	}
	for _, c := range []struct {
		p    []int
		want string
	}{
		{[]int{0}, "()"},
		{stay(12), "()"},
		{[]int{1, 0}, "(0,1)"},
		{[]int{2, 0, 1, 4, 3}, "(0,2,1)(3,4)"},
		{[]int{0, 3, 2, 1}, "(1,3)"},
		{[]int{1, 2, 3, 4, 5, 6, 7, 8, 9, 10, 11, 0}, "(0,1,2,3,4,5,6,7,8,9,10,11)"},
		{[]int{0, 1, 2, 3, 4, 5, 6, 7, 8, 9, 11, 10}, "(10,11)"},
		{[]int{11, 10, 9, 8, 7, 6, 5, 4, 3, 2, 1, 0}, "(0,11)(1,10)(2,9)(3,8)(4,7)(5,6)"},
	} {
		if got := impl.PermText(c.p); got != c.want {
			t.Errorf("PermText(%v) = %q instead of %q", c.p, got, c.want)
		}
	}
}

// withMark returns all texts that a further mark at some place makes of a text.
func withMark(text, mark string) []string {
	var out []string
	for i := range len(text) + 1 {
		out = append(out, text[:i]+mark+text[i:])
	}
	return out
}

// Promise 11: permutations of texts.
func TestPromise11From(t *testing.T) {
	list := must[[]int](t)
	for _, p := range samplePerms() {
		text := impl.PermText(p)
		q := list(impl.PermFrom(len(p), text))
		if len(q) != len(p) || !impl.PermValid(q) || impl.PermText(q) != text {
			t.Errorf("PermFrom(%d, %q) = %v", len(p), text, q)
		}
		for _, mark := range []string{"(", ")"} {
			for _, s := range withMark(text, mark) {
				if got, ok := impl.PermFrom(len(p), s); ok || len(got) != 0 {
					t.Errorf("PermFrom(%d, %q) = %v", len(p), s, got)
				}
			}
		}
	}
}

// eachText calls do with every text of up to room bytes that begins with another one
// and goes on with bytes of texts.
func eachText(begin string, room int, do func(s string)) {
	do(begin)
	if room == len(begin) {
		return
	}
	for _, b := range "(),012" {
		eachText(begin+string(b), room, do)
	}
}

// TestFromEveryText holds PermFrom against the list of all texts of few points.
func TestFromEveryText(t *testing.T) {
	texts := [][]string{
		1: {"()"},
		2: {"()", "(0,1)"},
		3: {"()", "(0,1)", "(0,2)", "(1,2)", "(0,1,2)", "(0,2,1)"},
	}
	eachText("", 7, func(s string) {
		for n, all := range texts {
			p, ok := impl.PermFrom(n, s)
			if ok != slices.Contains(all, s) || ok && len(p) != n || !ok && len(p) != 0 {
				t.Errorf("PermFrom(%d, %q) = %v, %v", n, s, p, ok)
			}
		}
	})
}
