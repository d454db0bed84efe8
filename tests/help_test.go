package tests

import (
	"math"
	"slices"
	"testing"
)

// allPerms returns all permutations of n points, each in memory of its own.
func allPerms(n int) [][]int {
	out := [][]int{{}}
	for k := range n {
		var next [][]int
		for _, p := range out {
			for at := range k + 1 {
				next = append(next, slices.Insert(slices.Clone(p), at, k))
			}
		}
		out = next
	}
	return out
}

// bigPerms returns permutations of 6 to 12 points of many shapes: nothing moved,
// one cycle, exchanges, the greatest order (60), points that stay between cycles.
func bigPerms() [][]int {
	return [][]int{
		{0, 1, 2, 3, 4, 5, 6, 7, 8, 9, 10, 11},
		{1, 2, 3, 4, 5, 6, 7, 8, 9, 10, 11, 0},
		{11, 10, 9, 8, 7, 6, 5, 4, 3, 2, 1, 0},
		{1, 2, 0, 4, 5, 6, 3, 8, 9, 10, 11, 7},
		{0, 5, 2, 3, 11, 1, 6, 10, 8, 9, 7, 4},
		{10, 1, 2, 3, 4, 5, 6, 7, 8, 9, 0, 11},
		{7, 3, 9, 0, 11, 2, 8, 10, 1, 5, 4, 6},
		{6, 0, 4, 10, 1, 9, 2, 5, 3, 8, 7},
		{2, 0, 1, 5, 3, 4, 8, 6, 7, 9},
		{3, 0, 8, 6, 2, 5, 1, 7, 4},
		{4, 1, 7, 0, 6, 5, 3, 2},
		{6, 5, 4, 3, 2, 1, 0},
		{5, 0, 1, 2, 3, 4},
	}
}

// samplePerms returns all permutations of 1 to 5 points and the big ones.
func samplePerms() [][]int {
	var out [][]int
	for n := 1; n <= 5; n++ {
		out = append(out, allPerms(n)...)
	}
	return append(out, bigPerms()...)
}

// pairsOf calls do with all pairs of permutations of 1 to 4 points, and with all
// pairs of as many points among the big ones.
func pairsOf(do func(a, b []int)) {
	for n := 1; n <= 4; n++ {
		for _, a := range allPerms(n) {
			for _, b := range allPerms(n) {
				do(a, b)
			}
		}
	}
	for _, a := range bigPerms() {
		for _, b := range bigPerms() {
			if len(a) == len(b) {
				do(a, b)
			}
		}
	}
}

// notPerms returns lists that are no permutations.
func notPerms() [][]int {
	return [][]int{
		nil,
		{},
		{1},
		{-1},
		{0, 0},
		{1, 1},
		{0, 2},
		{-1, 0},
		{1, 2},
		{0, 1, 1},
		{1, 2, 3},
		{0, 1, 3},
		{0, 1, -2},
		{math.MinInt, 0},
		{math.MaxInt, 0},
		{0, 1, 2, 3, 4, 5, 6, 7, 8, 9, 10, 10},
		{0, 1, 2, 3, 4, 5, 6, 7, 8, 9, 10, 12},
		{0, 1, 2, 3, 4, 5, 6, 7, 8, 9, 10, 11, 12},
		{1, 0, 2, 3, 4, 5, 6, 7, 8, 9, 10, 11, 13, 12},
		stay(1000),
	}
}

// isPerm tells by the definition whether a list is a permutation.
func isPerm(p []int) bool {
	sorted := slices.Sorted(slices.Values(p))
	return len(p) >= 1 && len(p) <= 12 && slices.Equal(sorted, stay(len(p)))
}

// stay returns the list that takes each of n points to itself.
func stay(n int) []int {
	p := make([]int, n)
	for i := range p {
		p[i] = i
	}
	return p
}

// groups counts how many groups n points are in if the two of each pair are in one: each pair
// has one label at last.
func groups(n int, pairs [][2]int) int {
	label := stay(n)
	for range n {
		for _, pair := range pairs {
			least := min(label[pair[0]], label[pair[1]])
			label[pair[0]], label[pair[1]] = least, least
		}
	}
	slices.Sort(label)
	return len(slices.Compact(label))
}

// must gives the value of a call that has to succeed.
func must[T any](t *testing.T) func(v T, ok bool) T {
	return func(v T, ok bool) T {
		t.Helper()
		if !ok {
			t.Fatal("the call fails")
		}
		return v
	}
}

// sameList reports an error if two lists differ; empty and nil ones do not.
func sameList(t *testing.T, what string, got, want []int) {
	t.Helper()
	if !slices.Equal(got, want) {
		t.Errorf("%s: %v instead of %v", what, got, want)
	}
}

// sameLists reports an error if two lists of lists differ.
func sameLists(t *testing.T, what string, got, want [][]int) {
	t.Helper()
	if !slices.EqualFunc(got, want, slices.Equal[[]int]) {
		t.Errorf("%s: %v instead of %v", what, got, want)
	}
}

// roomy returns a list of the same numbers with spare capacity, and the whole
// memory behind it, whose rest has numbers that no call may change.
func roomy(p []int) (list []int, whole []int) {
	whole = append(slices.Clone(p), -71, -72, -73, -74)
	return whole[:len(p):len(whole)], whole
}

// scribble writes over a list up to its capacity.
func scribble(p []int) {
	p = p[:cap(p)]
	for i := range p {
		p[i] = -999
	}
}

// sharesNoMemory calls a function of one list that returns some, as keepsApart asks.
func sharesNoMemory(t *testing.T, name string, call func(p []int) [][]int, p []int) {
	t.Helper()
	arg, whole := roomy(p)
	keepsApart(t, name, [][]int{whole}, func() [][]int { return call(arg) })
}

// keepsApart makes a call that returns lists, for arguments with some memory behind them. It writes
// over each list of a result, and then the arguments, the other lists and a second result must be
// as they were; and when it writes over the arguments, the result must be as it was.
func keepsApart(t *testing.T, name string, args [][]int, call func() [][]int) {
	t.Helper()
	kept := cloneLists(args)
	first, second := call(), call()
	sameLists(t, name+" changes its arguments", args, kept)
	sameLists(t, name+" called twice", first, second)
	keptFirst := cloneLists(first)
	for i := range second {
		scribble(second[i])
		sameLists(t, name+" shares memory between its lists", second[i+1:], keptFirst[i+1:])
	}
	sameLists(t, name+" shares memory with its arguments", args, kept)
	sameLists(t, name+" shares memory between results", first, keptFirst)
	for _, list := range args {
		scribble(list)
	}
	sameLists(t, name+" shares memory with its arguments", first, keptFirst)
}

// listsShareNoMemory calls a function of a number that returns lists. It writes over the lists of
// a result one after the other, up to their capacity, from the first and from the last one on, and
// then over the whole result: the other lists, another result and a further call must be as they were.
func listsShareNoMemory(t *testing.T, name string, call func(n int) ([][]int, bool), n int) {
	t.Helper()
	list := must[[][]int](t)
	first, second, third := list(call(n)), list(call(n)), list(call(n))
	kept := cloneLists(first)
	sameLists(t, name+" called twice", second, kept)
	for i := range second {
		scribble(second[i])
		sameLists(t, name+" shares memory between its lists", second[i+1:], kept[i+1:])
	}
	for i := len(third) - 1; i >= 0; i-- {
		scribble(third[i])
		sameLists(t, name+" shares memory between its lists", third[:i], kept[:i])
	}
	clear(second[:cap(second)])
	sameLists(t, name+" shares memory between results", first, kept)
	sameLists(t, name+" after its results are changed", list(call(n)), kept)
}

// keepsNoState asks for the lists of all arguments in one order and then in the opposite one.
func keepsNoState[T any](t *testing.T, args []T, ask func(arg T) [][]int) {
	t.Helper()
	first := make([][][]int, len(args))
	for i, arg := range args {
		first[i] = ask(arg)
	}
	for i, arg := range slices.Backward(args) {
		sameLists(t, "the results when asked again", ask(arg), first[i])
	}
}
