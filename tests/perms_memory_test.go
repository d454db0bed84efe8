package tests

import (
	"slices"
	"testing"

	"loop.example/surfacemaps/impl"
)

// permCalls are the functions of chapter 1 that return a list, by name, called with two permutations.
func permCalls() map[string]func(a, b []int) ([]int, bool) {
	one := func(f func(p []int) ([]int, bool)) func(a, b []int) ([]int, bool) {
		return func(a, b []int) ([]int, bool) { return f(a) }
	}
	power := func(k int) func(a, b []int) ([]int, bool) {
		return func(a, b []int) ([]int, bool) { return impl.PermPower(a, k) }
	}
	return map[string]func(a, b []int) ([]int, bool){
		"PermMul":            impl.PermMul,
		"PermBack":           one(impl.PermBack),
		"PermPower by 0":     power(0),
		"PermPower by 1":     power(1),
		"PermPower by -1":    power(-1),
		"PermPower by 60":    power(60),
		"PermPower by -1000": power(-1000),
		"PermType":           one(impl.PermType),
		"PermConj":           impl.PermConj,
		"PermOrbits":         impl.PermOrbits,
		"PermFrom of PermText": func(a, b []int) ([]int, bool) {
			return impl.PermFrom(len(a), impl.PermText(a))
		},
	}
}

// memoryPairs are pairs of lists; with both the same list, with nothing moved, and invalid ones.
func memoryPairs() [][2][]int {
	return [][2][]int{
		{{0}, {0}},
		{{1, 0}, {0, 1}},
		{{1, 2, 0, 4, 3}, {0, 3, 2, 1, 4}},
		{stay(4), stay(4)},
		{stay(12), bigPerms()[3]},
		{bigPerms()[3], stay(12)},
		{bigPerms()[6], bigPerms()[3]},
		{{0, 1, 1}, {0, 1, 2}},
		{{0, 1}, {0, 1, 2}},
		{stay(13), stay(13)},
	}
}

func TestResultsShareNoMemory(t *testing.T) {
	for name, call := range permCalls() {
		for _, pair := range memoryPairs() {
			a, wholeA := roomy(pair[0])
			b, wholeB := roomy(pair[1])
			keepsApart(t, name, [][]int{wholeA, wholeB}, func() [][]int {
				p, _ := call(a, b)
				return [][]int{p}
			})
		}
	}
}

// TestCyclesShareNoMemory writes over one cycle after the other.
func TestCyclesShareNoMemory(t *testing.T) {
	for _, pair := range memoryPairs() {
		p, whole := roomy(pair[0])
		kept := slices.Clone(whole)
		cycles, ok := impl.PermCycles(p)
		other, _ := impl.PermCycles(p)
		if ok != impl.PermValid(p) {
			t.Fatalf("PermCycles(%v) returned %v", p, ok)
		}
		for i, c := range cycles {
			c = append(c, -1)
			scribble(c)
			scribble(cycles[i])
			sameLists(t, "cycles share memory with each other", cycles[i+1:], other[i+1:])
			sameList(t, "PermCycles shares memory with its argument", whole, kept)
		}
		last, _ := impl.PermCycles(p)
		sameLists(t, "PermCycles shares memory between results", other, last)
	}
}

// TestOthersKeepArguments asks the functions that return no list.
func TestOthersKeepArguments(t *testing.T) {
	for _, pair := range memoryPairs() {
		p, whole := roomy(pair[0])
		kept := slices.Clone(whole)
		impl.PermValid(p)
		impl.PermCycles(p)
		impl.PermOrder(p)
		impl.PermSign(p)
		impl.PermText(p)
		sameList(t, "a function changes its argument", whole, kept)
	}
}

// TestSameListTwice passes one list as both arguments.
func TestSameListTwice(t *testing.T) {
	p := []int{1, 2, 0, 4, 3}
	list := must[[]int](t)
	sameList(t, "PermMul with itself", list(impl.PermMul(p, p)), []int{2, 0, 1, 3, 4})
	sameList(t, "PermConj by itself", list(impl.PermConj(p, p)), p)
	sameList(t, "PermOrbits with itself", list(impl.PermOrbits(p, p)), []int{0, 0, 0, 3, 3})
	sameList(t, "the argument", p, []int{1, 2, 0, 4, 3})
}
