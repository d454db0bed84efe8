package tests

import (
	"slices"
	"testing"

	"loop.example/surfacemaps/impl"
)

// coverCalls are the functions of chapter 9 that return lists for a voltage, by name; each result is
// the lists of one call, and those of a dart ask for each one, and for one that there is not.
func coverCalls() map[string]func(c covering, by []int) [][]int {
	eachDart := func(f func(c covering, d int, by []int) [][]int) func(c covering, by []int) [][]int {
		return func(c covering, by []int) [][]int {
			var out [][]int
			for d := range len(c.m.Turn) + 1 {
				out = append(out, f(c, d, by)...)
			}
			return out
		}
	}
	return map[string]func(c covering, by []int) [][]int{
		"CoverMap": func(c covering, by []int) [][]int {
			above, _ := impl.CoverMap(c.m, c.k, c.volts)
			return [][]int{above.Turn, above.Flip}
		},
		"CoverWinding": eachDart(func(c covering, d int, by []int) [][]int {
			w, _ := impl.CoverWinding(c.m, c.k, c.volts, d)
			return [][]int{w}
		}),
		"CoverConj": eachDart(func(c covering, d int, by []int) [][]int {
			volts, _ := impl.CoverConj(c.m, c.k, c.volts, d, by)
			return volts
		}),
		"CoverTree": func(c covering, by []int) [][]int {
			volts, _ := impl.CoverTree(c.m, c.k, c.volts)
			return volts
		},
		"CoverShift": func(c covering, by []int) [][]int {
			shift, _ := impl.CoverShift(c.m, c.k, c.volts, by)
			return [][]int{shift}
		},
		"CoverTrivial": func(c covering, by []int) [][]int {
			volts, _ := impl.CoverTrivial(c.m, c.k)
			return volts
		},
		"numbers": coverNumbers,
	}
}

// coverNumbers asks the functions of chapter 9 that return no list.
func coverNumbers(c covering, by []int) [][]int {
	numbers := []int{impl.CoverBranch(c.m, c.k, c.volts), impl.CoverGenus(c.m, c.k, c.volts), impl.CoverDeck(c.m, c.k, c.volts)}
	for _, holds := range []bool{impl.VoltageValid(c.m, c.k, c.volts), impl.CoverWhole(c.m, c.k, c.volts)} {
		if holds {
			numbers = append(numbers, 1)
		} else {
			numbers = append(numbers, 0)
		}
	}
	return [][]int{numbers}
}

// memoryCovers returns the known coverings, with voltages along their trees, and some that are invalid.
func memoryCovers() []covering {
	var out []covering
	for _, k := range knownCovers() {
		c := k.covering()
		along, _ := impl.CoverTree(c.m, c.k, c.volts)
		out = append(out, c, covering{c.m, c.k, along}, covering{c.m, c.k, c.volts[1:]}, covering{c.m, c.k + 1, c.volts})
	}
	loop := knownAs("a loop")
	return append(out, covering{loop, 0, nil}, covering{loop, 2, [][]int{{0, 0}}}, covering{impl.Map{}, 1, nil},
		covering{impl.Map{Turn: []int{1, 0}, Flip: []int{0, 1}}, 2, [][]int{{1, 0}}})
}

// roomyCover returns a covering whose lists, and the list of them, have spare capacity, and the whole
// memory behind each list.
func roomyCover(c covering) (covering, [][]int) {
	m, both := roomyMap(c.m)
	whole := both[:]
	volts := make([][]int, 0, len(c.volts)+2)
	for _, p := range c.volts {
		row, all := roomy(p)
		volts, whole = append(volts, row), append(whole, all)
	}
	return covering{m, c.k, volts}, whole
}

func TestCoversShareNoMemory(t *testing.T) {
	for name, call := range coverCalls() {
		for _, c := range memoryCovers() {
			for _, p := range somePerms(max(c.k, 1)) {
				arg, whole := roomyCover(c)
				by, wholeBy := roomy(p)
				keepsApart(t, name, append(whole, wholeBy), func() [][]int { return call(arg, by) })
			}
		}
	}
}

// TestVoltagesShareNoRows writes over the lists of permutations themselves, up to their capacity: those
// of the results, then that of the arguments.
func TestVoltagesShareNoRows(t *testing.T) {
	for name, call := range map[string]func(c covering, by []int) [][]int{
		"CoverConj": func(c covering, by []int) [][]int {
			volts, _ := impl.CoverConj(c.m, c.k, c.volts, 0, by)
			return volts
		},
		"CoverTree":    coverCalls()["CoverTree"],
		"CoverTrivial": coverCalls()["CoverTrivial"],
	} {
		for _, c := range memoryCovers() {
			arg, _ := roomyCover(c)
			spare := append(arg.volts, []int{-81}, []int{-82})
			kept, by := cloneLists(spare), stay(max(c.k, 1))
			first, second := call(arg, by), call(arg, by)
			want := cloneLists(first)
			clear(second[:cap(second)])
			sameLists(t, name+" shares memory with its arguments", spare, kept)
			sameLists(t, name+" shares memory between results", first, want)
			sameLists(t, name+" called again", call(arg, by), want)
			clear(spare)
			sameLists(t, name+" shares memory with its arguments", first, want)
		}
	}
}

func TestTrivialVoltagesShareNoMemory(t *testing.T) {
	for _, c := range memoryCovers() {
		if impl.VoltageValid(c.m, c.k, c.volts) {
			listsShareNoMemory(t, "CoverTrivial", func(k int) ([][]int, bool) { return impl.CoverTrivial(c.m, k) }, c.k)
			listsShareNoMemory(t, "CoverTree", func(k int) ([][]int, bool) { return impl.CoverTree(c.m, k, c.volts) }, c.k)
		}
	}
}

// TestOnePermAsAll passes one list as Turn and Flip, as each permutation of the voltage, and as the
// renaming of the sheets, too.
func TestOnePermAsAll(t *testing.T) {
	p := []int{1, 0}
	arg := covering{impl.Map{Turn: p, Flip: p}, 2, [][]int{p}}
	for name, call := range coverCalls() {
		got := call(arg, p)
		sameLists(t, name+" of one list as all", got, call(knownCovers()[2].covering(), []int{1, 0}))
		for i := range got {
			kept := cloneLists(got)
			scribble(got[i])
			sameLists(t, name+" of one list as all shares memory between its lists", got[i+1:], kept[i+1:])
		}
		sameList(t, name+" of one list as all", p, []int{1, 0})
	}
	q := []int{1, 2, 0}
	ring := covering{knownAs("a ring of two"), 3, [][]int{q, q}}
	for _, name := range []string{"CoverConj", "CoverTree"} {
		got := coverCalls()[name](ring, q)
		for i := range got {
			kept := cloneLists(got)
			scribble(got[i])
			sameLists(t, name+" of one list twice shares memory between its lists", slices.Concat(got[:i], got[i+1:]), slices.Concat(kept[:i], kept[i+1:]))
		}
		sameList(t, name+" of one list twice", q, []int{1, 2, 0})
	}
}

// TestCoversKeepNoState asks for all results of coverings.
func TestCoversKeepNoState(t *testing.T) {
	keepsNoState(t, memoryCovers(), func(c covering) [][]int {
		var lists [][]int
		for _, name := range []string{"CoverMap", "CoverWinding", "CoverConj", "CoverTree", "CoverShift", "CoverTrivial", "numbers"} {
			lists = append(lists, coverCalls()[name](c, stay(max(c.k, 1)))...)
		}
		return lists
	})
}
