package tests

import (
	"math"
	"slices"
	"testing"

	"loop.example/surfacemaps/impl"
)

// shortLists returns all lists of up to 3 numbers from -1 to 3.
func shortLists() [][]int {
	var out [][]int
	for n := range 4 {
		out = append(out, stepsOf(n, -1, 3)...)
	}
	return out
}

// otherNumbers returns lists in which one number of a list is another one: just out of range, there
// already, or at the ends of the ints.
func otherNumbers(list []int) [][]int {
	var out [][]int
	n := len(list)
	for i := range list {
		for _, x := range []int{-1, n, list[(i+1)%n], -n, math.MinInt, math.MaxInt, math.MinInt + 1, math.MaxInt - 1, math.MinInt32, math.MaxInt32, 1 << 32, math.MinInt + list[i]} {
			other := slices.Clone(list)
			other[i] = x
			out = append(out, other)
		}
	}
	return out
}

// evenFlips returns Flips of each even number of darts up to two more than there may be: neighbors
// are an edge, or opposite darts.
func evenFlips() [][]int {
	var out [][]int
	for n := 2; n <= 14; n += 2 {
		beside, across := stay(n), stay(n)
		for d := range n {
			beside[d], across[d] = d^1, (d+n/2)%n
		}
		out = append(out, beside, across)
	}
	return out
}

// anyLists returns lists of numbers: permutations of 1 to 12 points, Flips and Turns of maps among
// them, and lists that are none, of all lengths, empty and too long, with numbers up to the ends of
// the ints.
func anyLists() [][]int {
	out := append(shortLists(), allPerms(4)...)
	out = append(out, nil, stay(13), append(stay(13)[1:], 0), stay(14), append(stay(14)[1:], 0), slices.Repeat([]int{0}, 12), slices.Repeat([]int{-1}, 12))
	out = append(out, []int{1, 2, 3, 4, 0}, []int{0, 2, 1, 4, 3}, []int{4, 3, 2, 1, 0})
	out = append(out, bigPerms()...)
	out = append(out, notPerms()...)
	out = append(out, evenFlips()...)
	for _, k := range knownMaps() {
		out = append(out, k.m.Turn, k.m.Flip)
	}
	for _, list := range [][]int{{0}, {1, 0}, {1, 2, 3, 0}, {1, 0, 3, 2}, {1, 0, 3, 2, 5, 4}, knownAs("a tetrahedron").Turn, stay(13)} {
		out = append(out, otherNumbers(list)...)
	}
	return out
}

// renamedAlike holds a map against itself renamed by a permutation.
func renamedAlike(t *testing.T, m impl.Map, by []int) {
	t.Helper()
	one, list := must[impl.Map](t), must[[]int](t)
	named := one(impl.MapRename(m, by))
	if !impl.MapValid(named) || !renames(m, named, by) {
		t.Fatalf("MapRename(%v, %v) = %v", m, by, named)
	}
	sameList(t, "MapCounts of a map renamed", list(impl.MapCounts(named)), list(impl.MapCounts(m)))
	if !impl.MapSame(m, named) || !impl.MapSame(named, m) || impl.MapTurns(named) != impl.MapTurns(m) {
		t.Errorf("%v renamed by %v is %v, which is not the same or has other MapTurns", m, by, named)
	}
	sameMap(t, "MapLeast of a map renamed", one(impl.MapLeast(named)), one(impl.MapLeast(m)))
}

// asMap holds a map against what the document promises of each one.
func asMap(t *testing.T, m impl.Map) {
	t.Helper()
	one, list := must[impl.Map](t), must[[]int](t)
	counts, genus := list(impl.MapCounts(m)), impl.MapGenus(m)
	if len(counts) != 3 || genus < 0 || counts[0]-counts[1]+counts[2] != 2-2*genus {
		t.Fatalf("MapCounts(%v) = %v with the genus %d", m, counts, genus)
	}
	if impl.MapTurns(m) < 1 || !impl.MapSame(m, m) {
		t.Errorf("MapTurns or MapSame takes %v for no map", m)
	}
	dual, mirror := one(impl.MapDual(m)), one(impl.MapMirror(m))
	sameMap(t, "MapDual twice", one(impl.MapDual(dual)), m)
	sameMap(t, "MapMirror twice", one(impl.MapMirror(mirror)), m)
	sameList(t, "MapCounts of the dual", list(impl.MapCounts(dual)), []int{counts[2], counts[1], counts[0]})
	sameList(t, "MapCounts of the mirror", list(impl.MapCounts(mirror)), counts)
}

// asNoMap holds lists that are no map against what the document tells of them.
func asNoMap(t *testing.T, m impl.Map) {
	t.Helper()
	fails(t, "MapCounts")(impl.MapCounts(m))
	failsMap(t, "MapDual")(impl.MapDual(m))
	failsMap(t, "MapMirror")(impl.MapMirror(m))
	failsMap(t, "MapLeast")(impl.MapLeast(m))
	failsMap(t, "MapRename")(impl.MapRename(m, stay(len(m.Turn))))
	if impl.MapGenus(m) != -1 || impl.MapTurns(m) != -1 || impl.MapSame(m, m) {
		t.Errorf("MapGenus, MapTurns or MapSame takes %v for a map", m)
	}
}

// Promise 119: any three lists. The third one is asked where the first two are a map.
func TestPromise119Lists(t *testing.T) {
	lists := anyLists()
	maps, named, refused := map[int]int{}, 0, 0
	for _, turn := range lists {
		for _, flip := range lists {
			m := impl.Map{Turn: turn, Flip: flip}
			want := isMap(m)
			if got := impl.MapValid(m); got != want {
				t.Fatalf("MapValid(%v) = %v", m, got)
			}
			if !want {
				asNoMap(t, m)
				continue
			}
			maps[len(turn)]++
			asMap(t, m)
			for _, by := range lists {
				if isPerm(by) && len(by) == len(turn) {
					named++
					renamedAlike(t, m, by)
					continue
				}
				refused++
				failsMap(t, "MapRename")(impl.MapRename(m, by))
			}
		}
	}
	for n := 1; n <= 14; n++ {
		if (maps[n] > 0) != (n%2 == 0 && n <= 12) {
			t.Errorf("%d maps here have %d darts", maps[n], n)
		}
	}
	if named < 1000 || refused < 10000 {
		t.Errorf("maps are renamed %d times and not renamed %d times", named, refused)
	}
}

// asPerm holds a permutation against its own text and its power by its order.
func asPerm(t *testing.T, p []int) {
	t.Helper()
	list := must[[]int](t)
	sameList(t, "PermPower by PermOrder", list(impl.PermPower(p, impl.PermOrder(p))), stay(len(p)))
	sameList(t, "PermFrom of PermText", list(impl.PermFrom(len(p), impl.PermText(p))), p)
}

// asPair holds two permutations of as many points against what the document promises of them.
func asPair(t *testing.T, a, b []int) {
	t.Helper()
	list := must[[]int](t)
	product := list(impl.PermMul(a, b))
	sameList(t, "PermMul", product, thenPerm(a, b))
	if sign := impl.PermSign(product); sign*sign != 1 || sign != impl.PermSign(a)*impl.PermSign(b) {
		t.Errorf("PermSign(%v) = %d is not the product of the signs of %v and %v", product, sign, a, b)
	}
	sameList(t, "PermMul with PermBack", list(impl.PermMul(product, list(impl.PermBack(b)))), a)
	conj := list(impl.PermConj(a, b))
	sameList(t, "PermType of PermConj", list(impl.PermType(conj)), list(impl.PermType(a)))
	if order := impl.PermOrder(conj); order < 1 || order != impl.PermOrder(a) {
		t.Errorf("PermOrder(%v) = %d, but not of %v", conj, order, a)
	}
}

// Promise 120: any two lists.
func TestPromise120Lists(t *testing.T) {
	lists := anyLists()
	perms, pairs := map[int]int{}, 0
	for _, a := range lists {
		want := isPerm(a)
		if got := impl.PermValid(a); got != want {
			t.Fatalf("PermValid(%v) = %v", a, got)
		}
		if want {
			perms[len(a)]++
			asPerm(t, a)
		} else {
			fails(t, "PermPower")(impl.PermPower(a, 1))
			if impl.PermOrder(a) != -1 || impl.PermSign(a) != 0 || impl.PermText(a) != "" {
				t.Errorf("PermOrder, PermSign or PermText takes %v for a permutation", a)
			}
		}
		for _, b := range lists {
			if want && isPerm(b) && len(a) == len(b) {
				pairs++
				asPair(t, a, b)
				continue
			}
			failPair(t, a, b)
		}
	}
	for n := range 15 {
		if (perms[n] > 0) != (n >= 1 && n <= 12) {
			t.Errorf("%d lists here are permutations of %d points", perms[n], n)
		}
	}
	if pairs < 1000 {
		t.Errorf("just %d pairs of lists are permutations of as many points", pairs)
	}
}

// TestListsKeepNoState asks all lists for what is told of each one, in one order and in the opposite one.
func TestListsKeepNoState(t *testing.T) {
	keepsNoState(t, anyLists(), func(p []int) [][]int {
		kept := slices.Clone(p)
		m := impl.Map{Turn: p, Flip: p}
		product, _ := impl.PermMul(p, p)
		dual, _ := impl.MapDual(m)
		counts, _ := impl.MapCounts(m)
		sameList(t, "a list that is asked", p, kept)
		return [][]int{product, dual.Turn, dual.Flip, counts, {impl.PermOrder(p), impl.PermSign(p), impl.MapTurns(m)}}
	})
}
