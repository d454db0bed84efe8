package tests

import (
	"fmt"
	"slices"
	"testing"

	"loop.example/surfacemaps/impl"
)

// hasList tells whether a list is one of some.
func hasList(lists [][]int, list []int) bool {
	return slices.ContainsFunc(lists, func(other []int) bool { return slices.Equal(other, list) })
}

// Promise 44: partitions.
func TestPromise44Valid(t *testing.T) {
	list := must[[]int](t)
	for _, p := range allParts() {
		if !impl.PartsValid(p) {
			t.Fatalf("PartsValid does not hold for %v", p)
		}
		sameList(t, "PermType of ClassFirst", list(impl.PermType(list(impl.ClassFirst(p)))), p)
		if all := must[[][]int](t)(impl.PartsAll(sumOf(p))); !hasList(all, p) {
			t.Errorf("PartsAll(%d) has no %v", sumOf(p), p)
		}
		if conj := list(impl.PartsConj(p)); !impl.PartsValid(conj) {
			t.Errorf("PartsConj(%v) = %v is no partition", p, conj)
		}
	}
}

// Promise 45: all partitions.
func TestPromise45All(t *testing.T) {
	for n := 1; n <= 6; n++ {
		all := must[[][]int](t)(impl.PartsAll(n))
		sameLists(t, "PartsAll", all, partRows()[n])
		squares, sizes := 0, 0
		for i, p := range all {
			squares += impl.CharDegree(p) * impl.CharDegree(p)
			sizes += impl.ClassSize(p)
			if !impl.PartsValid(p) || sumOf(p) != n || hasList(all[:i], p) {
				t.Errorf("PartsAll(%d) has %v at %d", n, p, i)
			}
		}
		if squares != upTo(n) || sizes != upTo(n) {
			t.Errorf("for %d the squares of the degrees are %d, the class sizes %d together", n, squares, sizes)
		}
	}
}

// Promise 46: conjugates.
func TestPromise46Conj(t *testing.T) {
	list := must[[]int](t)
	own := 0
	for _, p := range allParts() {
		got := list(impl.PartsConj(p))
		var want []int
		for i := 1; i <= p[0]; i++ {
			many := 0
			for _, x := range p {
				if x >= i {
					many++
				}
			}
			want = append(want, many)
		}
		sameList(t, "PartsConj", got, want)
		sameList(t, "PartsConj of PartsConj", list(impl.PartsConj(got)), p)
		if sumOf(got) != sumOf(p) || len(got) != p[0] || impl.CharDegree(got) != impl.CharDegree(p) {
			t.Errorf("PartsConj(%v) = %v has another sum, length or degree", p, got)
		}
		if slices.Equal(got, p) {
			own++
		}
	}
	if own != 5 { // {1}, {2, 1}, {2, 2}, {3, 1, 1} and {3, 2, 1}
		t.Errorf("%d partitions here are their own conjugates", own)
	}
	for _, c := range [][2][]int{
		{{1}, {1}}, {{6}, ones(6)}, {ones(6), {6}}, {{3, 2, 1}, {3, 2, 1}}, {{2, 2}, {2, 2}},
		{{4, 2}, {2, 2, 1, 1}}, {{3, 3}, {2, 2, 2}}, {{3, 1}, {2, 1, 1}}, {{4, 1, 1}, {3, 1, 1, 1}},
	} {
		sameList(t, "PartsConj", list(impl.PartsConj(c[0])), c[1])
	}
}

// Promise 47: class sizes.
func TestPromise47Size(t *testing.T) {
	for n := 1; n <= 6; n++ {
		classes := classesOf(n)
		for i, p := range partRows()[n] {
			got := impl.ClassSize(p)
			if got != len(classes[i]) || got != sizeRows()[n][i] || upTo(n)%got != 0 {
				t.Errorf("ClassSize(%v) = %d instead of %d", p, got, len(classes[i]))
			}
		}
	}
}

// Promise 48: the first permutation of a class.
func TestPromise48First(t *testing.T) {
	list := must[[]int](t)
	for _, p := range allParts() {
		got := list(impl.ClassFirst(p))
		var want []int
		for _, x := range p {
			begin := len(want)
			for i := 1; i < x; i++ {
				want = append(want, begin+i)
			}
			want = append(want, begin)
		}
		sameList(t, "ClassFirst", got, want)
		sameList(t, "PermType of ClassFirst", list(impl.PermType(got)), p)
		sign := impl.PermSign(got)
		if (sign == 1) != ((sumOf(p)-len(p))%2 == 0) {
			t.Errorf("PermSign of ClassFirst(%v) is %d", p, sign)
		}
		if value := must[int](t)(impl.CharValue(ones(sumOf(p)), p)); value != sign {
			t.Errorf("CharValue of one column and %v is %d instead of %d", p, value, sign)
		}
	}
	for _, c := range []struct {
		p    []int
		text string
	}{
		{[]int{1}, "()"}, {ones(6), "()"}, {[]int{6}, "(0,1,2,3,4,5)"}, {[]int{3, 2}, "(0,1,2)(3,4)"},
		{[]int{2, 2, 1}, "(0,1)(2,3)"}, {[]int{3, 2, 1}, "(0,1,2)(3,4)"}, {[]int{2, 2, 2}, "(0,1)(2,3)(4,5)"},
	} {
		if text := impl.PermText(list(impl.ClassFirst(c.p))); text != c.text {
			t.Errorf("ClassFirst(%v) is %s instead of %s", c.p, text, c.text)
		}
	}
}

// TestCharacters holds all characters there are against the known tables, and these against
// characters that are made without hooks.
func TestCharacters(t *testing.T) {
	for n := 1; n <= 6; n++ {
		table := charTables()[n]
		sameLists(t, fmt.Sprint("the characters for ", n), charsByRows(n), table)
		for i, shape := range partRows()[n] {
			for k, parts := range partRows()[n] {
				if got, ok := impl.CharValue(shape, parts); !ok || got != table[i][k] {
					t.Errorf("CharValue(%v, %v) = %d, %v instead of %d", shape, parts, got, ok, table[i][k])
				}
			}
		}
	}
}

// Promise 49: characters of conjugate shapes, of one row and of one column.
func TestPromise49Value(t *testing.T) {
	list, one := must[[]int](t), must[int](t)
	for n := 1; n <= 6; n++ {
		for _, parts := range partRows()[n] {
			sign := impl.PermSign(list(impl.ClassFirst(parts)))
			for _, shape := range partRows()[n] {
				got := one(impl.CharValue(shape, parts))
				if conj := one(impl.CharValue(list(impl.PartsConj(shape)), parts)); conj != got*sign {
					t.Errorf("CharValue(%v, %v) = %d, but %d for the conjugate shape", shape, parts, got, conj)
				}
				if degree := impl.CharDegree(shape); got*got > degree*degree {
					t.Errorf("CharValue(%v, %v) = %d is too great", shape, parts, got)
				}
			}
			if row := one(impl.CharValue([]int{n}, parts)); row != 1 {
				t.Errorf("CharValue of one row and %v is %d", parts, row)
			}
			if column := one(impl.CharValue(ones(n), parts)); column != sign {
				t.Errorf("CharValue of one column and %v is %d", parts, column)
			}
		}
	}
}

// Promise 50: shapes are at right angles.
func TestPromise50Shapes(t *testing.T) {
	one := must[int](t)
	for n := 1; n <= 6; n++ {
		for i, a := range partRows()[n] {
			for k, b := range partRows()[n] {
				sum, want := 0, 0
				for _, parts := range partRows()[n] {
					sum += impl.ClassSize(parts) * one(impl.CharValue(a, parts)) * one(impl.CharValue(b, parts))
				}
				if i == k {
					want = upTo(n)
				}
				if sum != want {
					t.Errorf("the shapes %v and %v have %d instead of %d", a, b, sum, want)
				}
			}
		}
	}
}

// Promise 51: types are at right angles.
func TestPromise51Types(t *testing.T) {
	one := must[int](t)
	for n := 1; n <= 6; n++ {
		for i, a := range partRows()[n] {
			for k, b := range partRows()[n] {
				sum, want := 0, 0
				for _, shape := range partRows()[n] {
					sum += one(impl.CharValue(shape, a)) * one(impl.CharValue(shape, b))
				}
				if i == k {
					want = upTo(n)
				}
				if sum*impl.ClassSize(a) != want {
					t.Errorf("the types %v and %v have %d", a, b, sum)
				}
			}
		}
	}
}

// lessOne returns the partitions that a shape is with one place less.
func lessOne(shape []int) [][]int {
	var out [][]int
	for i := range shape {
		less := slices.Clone(shape)
		less[i]--
		if less[i] == 0 {
			less = less[:i]
		}
		if isPartition(less) && sumOf(less) == sumOf(shape)-1 {
			out = append(out, less)
		}
	}
	return out
}

// Promise 52: degrees.
func TestPromise52Degree(t *testing.T) {
	for n := 1; n <= 6; n++ {
		for i, shape := range partRows()[n] {
			got := impl.CharDegree(shape)
			table := charTables()[n][i]
			if value := must[int](t)(impl.CharValue(shape, ones(n))); got != value || got != table[len(table)-1] {
				t.Errorf("CharDegree(%v) = %d, and CharValue is %d", shape, got, value)
			}
			sum := 0
			for _, less := range lessOne(shape) {
				sum += impl.CharDegree(less)
			}
			if n > 1 && sum != got {
				t.Errorf("CharDegree(%v) = %d, but %d with one place less", shape, got, sum)
			}
		}
	}
	for _, c := range []struct {
		shape  []int
		degree int
	}{
		{[]int{1}, 1}, {[]int{6}, 1}, {ones(6), 1}, {[]int{3, 2, 1}, 16}, {[]int{2, 2}, 2}, {[]int{3, 1, 1}, 6}, {[]int{5, 1}, 5}, {[]int{3, 3}, 5},
	} {
		if got := impl.CharDegree(c.shape); got != c.degree {
			t.Errorf("CharDegree(%v) = %d instead of %d", c.shape, got, c.degree)
		}
	}
}

// Promise 53: factorizations by characters.
func TestPromise53Count(t *testing.T) {
	for n := 1; n <= 6; n++ {
		table := leads(n)
		for _, places := range placeLists(n) {
			types := typesAt(n, places)
			got := impl.FactorCount(types)
			if want := chains(table, places); got != want {
				t.Errorf("FactorCount(%v) = %d instead of %d", types, got, want)
			}
			opposite := slices.Clone(types)
			slices.Reverse(opposite)
			if back := impl.FactorCount(opposite); back != got {
				t.Errorf("FactorCount(%v) = %d, but %d in the opposite order", types, got, back)
			}
			if len(types) == 6 {
				continue
			}
			if with := impl.FactorCount(append(slices.Clone(types), ones(n))); with != got {
				t.Errorf("FactorCount(%v) = %d, but %d with a further type that moves nothing", types, got, with)
			}
			sum, sizes := 0, 1
			for _, parts := range partRows()[n] {
				sum += impl.FactorCount(append(slices.Clone(types), parts))
			}
			for _, parts := range types {
				sizes *= impl.ClassSize(parts)
			}
			if sum != sizes {
				t.Errorf("FactorCount(%v) and all further types are %d instead of %d", types, sum, sizes)
			}
		}
	}
}

// knownFactors are lists of types with what was worked out for them by hand.
func knownFactors() []struct {
	types              [][]int
	count, each, whole int
	genus              int
} {
	return []struct {
		types              [][]int
		count, each, whole int
		genus              int
	}{
		// One type: it has to move nothing, and is whole for one point alone.
		{[][]int{{1}}, 1, 1, 1, 0},
		{[][]int{{2}}, 0, 0, 0, -1},
		{[][]int{{1, 1}}, 1, 1, 0, -1},
		{[][]int{{4}}, 0, 0, 0, -1},
		{[][]int{ones(4)}, 1, 1, 0, -1},
		{[][]int{ones(5)}, 1, -1, -1, -1},
		// Two types: the second one leads back from the first one.
		{[][]int{{2}, {2}}, 1, 1, 1, 0},
		{[][]int{{3}, {3}}, 2, 2, 2, 0},
		{[][]int{{2, 1}, {2, 1}}, 3, 3, 0, -1},
		{[][]int{{2, 1}, {3}}, 0, 0, 0, -1},
		{[][]int{{4}, {4}}, 6, 6, 6, 0},
		{[][]int{{2, 2}, {2, 2}}, 3, 3, 0, -1},
		// Three types: two of the three exchanges of 3 points are another one of two behind it.
		{[][]int{{2}, {2}, {2}}, 0, 0, 0, -1},
		{[][]int{{2, 1}, {2, 1}, {3}}, 6, 6, 6, 0},
		{[][]int{{2, 1}, {2, 1}, {1, 1, 1}}, 3, 3, 0, -1},
		{[][]int{{3}, {3}, {3}}, 2, 2, 2, 1},
		{[][]int{{2, 2}, {2, 2}, {2, 2}}, 6, 6, 6, 0},
		{[][]int{{3, 1}, {3, 1}, {3, 1}}, 32, 32, 24, 0},
		{[][]int{{2, 1, 1}, {2, 1, 1}, {2, 2}}, 6, 6, 0, -1},
		// Four types and more, and five points and more, are just counted by characters.
		{[][]int{{2}, {2}, {2}, {2}}, 1, -1, -1, 1},
		{[][]int{{2, 1}, {2, 1}, {2, 1}, {2, 1}}, 27, -1, -1, 0},
		{[][]int{{5}, {5}}, 24, -1, -1, 0},
		{[][]int{{1}, {1}, {1}, {1}, {1}, {1}}, 1, -1, -1, 0},
		{[][]int{{2}, {2}, {2}, {2}, {2}, {2}}, 1, -1, -1, 2},
		{[][]int{ones(6), ones(6), ones(6), ones(6), ones(6), ones(6)}, 1, -1, -1, -1},
	}
}

func TestKnownFactors(t *testing.T) {
	for _, k := range knownFactors() {
		got := []int{impl.FactorCount(k.types), impl.FactorEach(k.types), impl.FactorWhole(k.types), impl.FactorGenus(k.types)}
		sameList(t, fmt.Sprint("the counts and the genus of ", k.types), got, []int{k.count, k.each, k.whole, k.genus})
	}
}

// Promise 54: factorizations one by one.
func TestPromise54Each(t *testing.T) {
	var each, whole [5]map[string]int
	for n := 1; n <= 4; n++ {
		each[n], whole[n] = oneByOneTypes(n)
	}
	some, apart := 0, 0
	for _, types := range fewLists() {
		n, text := sumOf(types[0]), fmt.Sprint(types)
		count, got, hang := impl.FactorCount(types), impl.FactorEach(types), impl.FactorWhole(types)
		if got != count || got != each[n][text] {
			t.Errorf("FactorEach(%v) = %d instead of %d, and FactorCount is %d", types, got, each[n][text], count)
		}
		if hang > got || hang != whole[n][text] {
			t.Errorf("FactorWhole(%v) = %d instead of %d", types, hang, whole[n][text])
		}
		if hang > 0 && hang < got {
			some++
		}
		if hang == 0 && got > 0 {
			apart++
		}
	}
	// Just the cycles of three of four points, three times, are sometimes whole and sometimes not.
	if some != 1 || apart < 20 {
		t.Errorf("%d lists here have whole factorizations beside others, and %d just others", some, apart)
	}
}

// Promise 55: whole factorizations.
func TestPromise55Whole(t *testing.T) {
	all := 0
	for _, types := range someTypes() {
		each, whole, n := impl.FactorEach(types), impl.FactorWhole(types), sumOf(types[0])
		if (each == -1) != (n > 4 || len(types) > 3) || (whole == -1) != (each == -1) {
			t.Errorf("FactorEach(%v) = %d, FactorWhole %d", types, each, whole)
		}
		if whole > 0 && impl.FactorGenus(types) == -1 {
			t.Errorf("FactorWhole(%v) = %d, but FactorGenus is -1", types, whole)
		}
		if n == 1 || hasList(types, []int{n}) {
			all++
			if whole != each {
				t.Errorf("FactorWhole(%v) = %d instead of %d", types, whole, each)
			}
		}
	}
	if all < 100 {
		t.Errorf("just %d lists here have a type of one number", all)
	}
}

// Promise 56: the genus.
func TestPromise56Genus(t *testing.T) {
	negative, half := 0, 0
	for _, types := range someTypes() {
		got, n := impl.FactorGenus(types), sumOf(types[0])
		if want := genusByTypes(types); got != want {
			t.Errorf("FactorGenus(%v) = %d instead of %d", types, got, want)
		}
		if got == -1 {
			moved := 0
			for _, parts := range types {
				moved += n - len(parts)
			}
			if moved%2 != 0 {
				half++
			} else {
				negative++
			}
			continue
		}
		opposite := slices.Clone(types)
		slices.Reverse(opposite)
		if back := impl.FactorGenus(opposite); back != got {
			t.Errorf("FactorGenus(%v) = %d, but %d in the opposite order", types, got, back)
		}
		if len(types) < 6 {
			if with := impl.FactorGenus(append(slices.Clone(types), ones(n))); with != got {
				t.Errorf("FactorGenus(%v) = %d, but %d with a further type that moves nothing", types, got, with)
			}
		}
		if len(types) < 5 && n > 1 {
			if with := impl.FactorGenus(append(slices.Clone(types), exchangeOf(n), exchangeOf(n))); with != got+1 {
				t.Errorf("FactorGenus(%v) = %d, but %d with two exchanges more", types, got, with)
			}
		}
	}
	if negative < 50 || half < 50 {
		t.Errorf("just %d lists here have a negative genus and %d no whole one", negative, half)
	}
}

// joins counts how many exchanges of two points, behind a permutation, lead to a type.
func joins(p, parts []int) int {
	many := 0
	for x := range p {
		for y := range x {
			exchange := stay(len(p))
			exchange[x], exchange[y] = y, x
			if slices.Equal(typeOf(thenPerm(p, exchange)), parts) {
				many++
			}
		}
	}
	return many
}

// Promise 57: exchanges of two points behind a permutation.
func TestPromise57Join(t *testing.T) {
	for n := 1; n <= 6; n++ {
		classes := classesOf(n)
		for i, a := range partRows()[n] {
			sum := 0
			for k, b := range partRows()[n] {
				got := impl.CutJoin(a, b)
				sum += got
				for _, p := range [][]int{classes[i][0], classes[i][len(classes[i])/2], classes[i][len(classes[i])-1]} {
					if want := joins(p, b); got != want {
						t.Errorf("CutJoin(%v, %v) = %d, but %d behind %v", a, b, got, want, p)
					}
				}
				if n == 1 {
					continue
				}
				there, back := sizeRows()[n][i]*got, sizeRows()[n][k]*impl.CutJoin(b, a)
				if count := impl.FactorCount([][]int{a, b, exchangeOf(n)}); there != back || there != count {
					t.Errorf("CutJoin(%v, %v) = %d: %d there, %d back, and FactorCount is %d", a, b, got, there, back, count)
				}
			}
			if sum != n*(n-1)/2 {
				t.Errorf("CutJoin(%v, b) of all b is %d", a, sum)
			}
		}
	}
	for _, c := range []struct {
		a, b []int
		want int
	}{
		{[]int{1}, []int{1}, 0}, {[]int{2}, []int{1, 1}, 1}, {[]int{1, 1}, []int{2}, 1}, {[]int{2}, []int{2}, 0},
		{[]int{4}, []int{2, 2}, 2}, {[]int{4}, []int{3, 1}, 4}, {ones(6), exchangeOf(6), 15}, {[]int{6}, []int{3, 3}, 3}, {[]int{3, 3}, []int{6}, 9},
	} {
		if got := impl.CutJoin(c.a, c.b); got != c.want {
			t.Errorf("CutJoin(%v, %v) = %d instead of %d", c.a, c.b, got, c.want)
		}
	}
}

// Promise 58: a cycle of all points, made of exchanges.
func TestPromise58Cycle(t *testing.T) {
	known := []int{0, 0, 1, 6, 96, 3000, 155520}
	for n := 2; n <= 6; n++ {
		types := [][]int{{n}}
		for range n - 1 {
			types = append(types, exchangeOf(n))
		}
		got := impl.FactorCount(types)
		if want := upTo(n-1) * power(n, n-2); got != want || got != known[n] {
			t.Errorf("FactorCount(%v) = %d instead of %d", types, got, want)
		}
		if impl.FactorGenus(types) != 0 {
			t.Errorf("FactorGenus(%v) = %d", types, impl.FactorGenus(types))
		}
	}
}
