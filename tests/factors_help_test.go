package tests

import (
	"fmt"
	"math"
	"slices"

	"loop.example/surfacemaps/impl"
)

// partRows has all partitions of 1 to SizeMax, in order, behind an empty row for 0.
func partRows() [][][]int {
	return [][][]int{
		{},
		{{1}},
		{{2}, {1, 1}},
		{{3}, {2, 1}, {1, 1, 1}},
		{{4}, {3, 1}, {2, 2}, {2, 1, 1}, {1, 1, 1, 1}},
		{{5}, {4, 1}, {3, 2}, {3, 1, 1}, {2, 2, 1}, {2, 1, 1, 1}, {1, 1, 1, 1, 1}},
		{{6}, {5, 1}, {4, 2}, {4, 1, 1}, {3, 3}, {3, 2, 1}, {3, 1, 1, 1}, {2, 2, 2}, {2, 2, 1, 1}, {2, 1, 1, 1, 1}, {1, 1, 1, 1, 1, 1}},
	}
}

// sizeRows has the class sizes of the partitions of partRows.
func sizeRows() [][]int {
	return [][]int{
		{},
		{1},
		{1, 1},
		{2, 3, 1},
		{6, 8, 3, 6, 1},
		{24, 30, 20, 20, 15, 10, 1},
		{120, 144, 90, 90, 40, 120, 40, 15, 45, 15, 1},
	}
}

// charTables has the characters for 1 to SizeMax: a row for each shape, a column for each
// type, both in the order of partRows.
func charTables() [][][]int {
	return [][][]int{
		{},
		{{1}},
		{{1, 1}, {-1, 1}},
		{{1, 1, 1}, {-1, 0, 2}, {1, -1, 1}},
		{
			{1, 1, 1, 1, 1},
			{-1, 0, -1, 1, 3},
			{0, -1, 2, 0, 2},
			{1, 0, -1, -1, 3},
			{-1, 1, 1, -1, 1},
		},
		{
			{1, 1, 1, 1, 1, 1, 1},
			{-1, 0, -1, 1, 0, 2, 4},
			{0, -1, 1, -1, 1, 1, 5},
			{1, 0, 0, 0, -2, 0, 6},
			{0, 1, -1, -1, 1, -1, 5},
			{-1, 0, 1, 1, 0, -2, 4},
			{1, -1, -1, 1, 1, -1, 1},
		},
		{
			{1, 1, 1, 1, 1, 1, 1, 1, 1, 1, 1},
			{-1, 0, -1, 1, -1, 0, 2, -1, 1, 3, 5},
			{0, -1, 1, -1, 0, 0, 0, 3, 1, 3, 9},
			{1, 0, 0, 0, 1, -1, 1, -2, -2, 2, 10},
			{0, 0, -1, -1, 2, 1, -1, -3, 1, 1, 5},
			{0, 1, 0, 0, -2, 0, -2, 0, 0, 0, 16},
			{-1, 0, 0, 0, 1, 1, 1, 2, -2, -2, 10},
			{0, 0, -1, 1, 2, -1, -1, 3, 1, -1, 5},
			{0, -1, 1, 1, 0, 0, 0, -3, 1, -3, 9},
			{1, 0, -1, -1, -1, 0, 2, 1, 1, -3, 5},
			{-1, 1, 1, -1, 1, -1, 1, -1, 1, -1, 1},
		},
	}
}

// allParts returns all partitions there are, of 1 to SizeMax.
func allParts() [][]int {
	return slices.Concat(partRows()...)
}

// upTo returns n times n - 1 and so on to 1.
func upTo(n int) int {
	out := 1
	for ; n > 1; n-- {
		out *= n
	}
	return out
}

func sumOf(list []int) int {
	sum := 0
	for _, x := range list {
		sum += x
	}
	return sum
}

// ones returns the list of n numbers that are 1: the type of which nothing moves, or the
// shape of one column.
func ones(n int) []int {
	return slices.Repeat([]int{1}, n)
}

// exchangeOf returns the type of the exchanges of two of n points.
func exchangeOf(n int) []int {
	return append([]int{2}, ones(n-2)...)
}

// isPartition tells by the definition whether a list is a partition of 1 to 6.
func isPartition(parts []int) bool {
	for i, x := range parts {
		if x < 1 || x > 6 || i > 0 && x > parts[i-1] {
			return false
		}
	}
	return sumOf(parts) >= 1 && sumOf(parts) <= 6
}

// typeOf returns the type of a permutation.
func typeOf(p []int) []int {
	number, many := cycleOf(p)
	out := make([]int, many)
	for _, x := range number {
		out[x]++
	}
	slices.Sort(out)
	slices.Reverse(out)
	return out
}

// typeAt returns the place of the type of a permutation in the row of partRows.
func typeAt(p []int) int {
	kind := typeOf(p)
	return slices.IndexFunc(partRows()[len(p)], func(parts []int) bool { return slices.Equal(parts, kind) })
}

// classesOf returns all permutations of n points by the places of their types.
func classesOf(n int) [][][]int {
	out := make([][][]int, len(partRows()[n]))
	for _, p := range allPerms(n) {
		out[typeAt(p)] = append(out[typeAt(p)], p)
	}
	return out
}

// fillings counts the ways to put cycles into rows so that all rows are full: it is how many
// ways to share points out to the rows a permutation with these cycles keeps.
func fillings(rows, cycles []int) int {
	if len(cycles) == 0 {
		return 1
	}
	sum := 0
	for i := range rows {
		if rows[i] >= cycles[0] {
			rows[i] -= cycles[0]
			sum += fillings(rows, cycles[1:])
			rows[i] += cycles[0]
		}
	}
	return sum
}

// charsByRows returns the characters for n without hooks: what each shape's fillings have
// beside the characters of the shapes ahead of it.
func charsByRows(n int) [][]int {
	var table [][]int
	for _, shape := range partRows()[n] {
		var row []int
		for _, parts := range partRows()[n] {
			row = append(row, fillings(slices.Clone(shape), parts))
		}
		for _, ahead := range table {
			times := 0
			for i, size := range sizeRows()[n] {
				times += size * row[i] * ahead[i]
			}
			for i := range row {
				row[i] -= times / upTo(n) * ahead[i]
			}
		}
		table = append(table, row)
	}
	return table
}

// leads counts how a permutation of one type leads on: leads(n)[t][i][j] is how many
// permutations of the type t, done behind one of the type i, make one of the type j.
func leads(n int) [][][]int {
	classes := classesOf(n)
	table := make([][][]int, len(classes))
	for t, class := range classes {
		for i := range classes {
			row := make([]int, len(classes))
			for _, q := range class {
				row[typeAt(thenPerm(classes[i][0], q))]++
			}
			table[t] = append(table[t], row)
		}
	}
	return table
}

// chains counts the factorizations for types, given by their places, by the types of what
// the first ones of them make.
func chains(table [][][]int, types []int) int {
	last := len(table) - 1 // The type of which nothing moves.
	many := make([]int, len(table))
	many[last] = 1
	for _, t := range types {
		next := make([]int, len(table))
		for i, m := range many {
			for j, way := range table[t][i] {
				next[j] += m * way
			}
		}
		many = next
	}
	return many[last]
}

// placeLists returns lists of 1 to TypesMax places in the row of partRows: all of them if
// there are few, and otherwise some that are spread over all.
func placeLists(n int) [][]int {
	var out [][]int
	base := len(partRows()[n])
	for many := 1; many <= 6; many++ {
		all := power(base, many)
		step := max(1, all/150)
		for step > 1 && step%base == 0 {
			step++
		}
		for code := 0; code < all; code += step {
			list, rest := []int{}, code
			for range many {
				list = append(list, rest%base)
				rest /= base
			}
			out = append(out, list)
		}
	}
	return out
}

// typesAt returns the types at places in the row of partRows, each in memory of its own.
func typesAt(n int, places []int) [][]int {
	var out [][]int
	for _, at := range places {
		out = append(out, slices.Clone(partRows()[n][at]))
	}
	return out
}

// fewLists returns all lists of 1 to 3 types of 1 to 4 points, for which factorizations are
// counted one by one.
func fewLists() [][][]int {
	var out [][][]int
	for n := 1; n <= 4; n++ {
		row := partRows()[n]
		for _, a := range row {
			out = append(out, [][]int{a})
			for _, b := range row {
				out = append(out, [][]int{a, b})
				for _, c := range row {
					out = append(out, [][]int{a, b, c})
				}
			}
		}
	}
	return out
}

// someTypes returns lists of types of 1 to SizeMax points.
func someTypes() [][][]int {
	out := fewLists()
	for n := 1; n <= 6; n++ {
		for _, places := range placeLists(n) {
			out = append(out, typesAt(n, places))
		}
	}
	return out
}

// genusByTypes tells the genus by its definition, or -1 if there is none.
func genusByTypes(types [][]int) int {
	n := sumOf(types[0])
	left := 2 * n
	for _, parts := range types {
		left -= n - len(parts)
	}
	for g := range 100 {
		if 2-2*g == left {
			return g
		}
	}
	return -1
}

// joined tells whether from the point 0 each other one can be reached by permutations.
func joined(perms [][]int) bool {
	reached := make([]bool, len(perms[0]))
	reached[0] = true
	for range reached {
		for _, p := range perms {
			for i, x := range p {
				if reached[i] {
					reached[x] = true
				}
			}
		}
	}
	return !slices.Contains(reached, false)
}

// oneByOneTypes goes through all lists of permutations of 1 to 3 factors that move nothing
// together, for n up to 4, and counts them and the whole ones by the text of their types.
func oneByOneTypes(n int) (each, whole map[string]int) {
	each, whole = map[string]int{}, map[string]int{}
	count := func(perms ...[]int) {
		product := stay(n)
		var types [][]int
		for _, p := range perms {
			product = thenPerm(product, p)
			types = append(types, typeOf(p))
		}
		if !slices.Equal(product, stay(n)) {
			return
		}
		each[fmt.Sprint(types)]++
		if joined(perms) {
			whole[fmt.Sprint(types)]++
		}
	}
	for _, a := range allPerms(n) {
		count(a)
		for _, b := range allPerms(n) {
			count(a, b)
			for _, c := range allPerms(n) {
				count(a, b, c)
			}
		}
	}
	return each, whole
}

// notParts returns lists that are no partitions of 1 to SizeMax.
func notParts() [][]int {
	return [][]int{
		nil,
		{},
		// Numbers less than 1.
		{0}, {-1}, {1, 0}, {0, 1}, {2, -1}, {3, 0, 0}, {1, 1, -1}, {7, -1}, {8, -2}, {math.MinInt}, {2, math.MinInt}, {math.MaxInt, math.MinInt},
		{5, 1, 0}, {1, 1, 1, 1, 1, 1, 0}, {6, 0}, {0, 0, 0},
		// A number greater than the one ahead.
		{1, 2}, {2, 3}, {1, 5}, {1, 1, 2}, {2, 1, 2}, {3, 1, 2}, {1, 2, 1}, {2, 1, 1, 2}, {1, 1, 1, 1, 2},
		// Sums that are too great.
		{7}, {6, 1}, {5, 2}, {4, 3}, {4, 2, 1}, {3, 3, 1}, {2, 2, 2, 1}, {1, 1, 1, 1, 1, 1, 1}, {6, 6}, {100}, {math.MaxInt}, {math.MaxInt, math.MaxInt},
		{math.MaxInt, math.MaxInt, 3}, {math.MaxInt, 1}, {1, math.MaxInt}, {1 << 62, 1 << 62, 1 << 62, 1 << 62, 1}, {1 << 32, 1},
		ones(12), ones(13), ones(1000), slices.Repeat([]int{2}, 1000),
	}
}

// notTypes returns lists that are not 1 to TypesMax partitions of one n.
func notTypes() [][][]int {
	out := [][][]int{
		nil,
		{},
		// Different sums.
		{{1}, {2}}, {{2}, {1}}, {{1, 1}, {1}}, {{3}, {2, 1}, {2}}, {{2}, {2, 1}, {3}}, {{3}, {2}, {3}}, {{4}, {5}}, {{6}, {5}}, {{5}, {6}},
		{{3}, {3}, {3}, {3}, {3}, {2}}, {{2, 2}, {3, 1}, {4}, {3}},
		// A list without numbers, beside partitions.
		{nil}, {{}, {1}}, {{1}, {}}, {{2}, nil, {2}}, {{1, 1}, {2}, {}},
	}
	for n := 1; n <= 6; n++ {
		for many := 7; many <= 9; many++ {
			out = append(out, slices.Repeat([][]int{ones(n)}, many), slices.Repeat([][]int{{n}}, many))
		}
		out = append(out, slices.Repeat([][]int{{n}}, 1000))
	}
	for _, bad := range notParts() {
		for _, good := range [][]int{{1}, {2, 1}, {1, 1, 1, 1, 1, 1}} {
			out = append(out, [][]int{bad}, [][]int{bad, bad}, [][]int{bad, good}, [][]int{good, bad}, [][]int{good, good, bad},
				[][]int{good, bad, good}, [][]int{good, good, good, good, good, bad})
		}
	}
	return out
}

// typeCounts are the functions of chapter 5 that ask for a list of types, by name.
func typeCounts() map[string]func(types [][]int) int {
	return map[string]func(types [][]int) int{
		"FactorCount": impl.FactorCount,
		"FactorEach":  impl.FactorEach,
		"FactorWhole": impl.FactorWhole,
		"FactorGenus": impl.FactorGenus,
	}
}
