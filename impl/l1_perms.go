package impl

import (
	"iter"
	"slices"
	"strconv"
	"strings"
)

// PointsMax is the greatest number of points of a permutation.
const PointsMax = 12

// powerMax is the greatest power, and its opposite the least one, that PermPower takes.
const powerMax = 1000

// perm is a list that PermValid has accepted. Its methods rely on that, so the
// exported functions ask PermValid before they make one.
type perm []int

// stillPerm returns the permutation of n points that moves nothing.
func stillPerm(n int) perm {
	p := make(perm, n)
	for i := range p {
		p[i] = i
	}
	return p
}

// then returns the permutation that does p first and q second.
func (p perm) then(q perm) perm {
	r := make(perm, len(p))
	for i, x := range p {
		r[i] = q[x]
	}
	return r
}

func (p perm) back() perm {
	r := make(perm, len(p))
	for i, x := range p {
		r[x] = i
	}
	return r
}

// cycles gives each cycle in memory of its own, so that a caller may keep or return it.
func (p perm) cycles() iter.Seq[[]int] {
	return func(yield func([]int) bool) {
		var seen [PointsMax]bool
		for first := range p {
			if seen[first] {
				continue
			}
			var cycle []int
			for x := first; !seen[x]; x = p[x] {
				seen[x] = true
				cycle = append(cycle, x)
			}
			if !yield(cycle) {
				return
			}
		}
	}
}

// lead makes p take each of some points to the next one, and the last one to the first one.
func (p perm) lead(cycle []int) {
	for i, x := range cycle {
		p[x] = cycle[(i+1)%len(cycle)]
	}
}

func (p perm) cycleCount() int {
	count := 0
	for range p.cycles() {
		count++
	}
	return count
}

// power moves each point along its own cycle, so that a great k costs no more than a small one.
func (p perm) power(k int) perm {
	r := make(perm, len(p))
	for cycle := range p.cycles() {
		n := len(cycle)
		step := (k%n + n) % n
		for i, x := range cycle {
			r[x] = cycle[(i+step)%n]
		}
	}
	return r
}

func (p perm) conj(by perm) perm {
	r := make(perm, len(p))
	for i, x := range p {
		r[by[i]] = by[x]
	}
	return r
}

// orbits takes p together with some others of as many points. It tries the points as
// firsts in ascending order, so the first one that reaches a point is the least of its
// orbit. It never goes back along an arrow: going on often enough leads back, too.
func (p perm) orbits(others ...perm) []int {
	least := slices.Repeat([]int{-1}, len(p))
	for first := range p {
		open := []int{first}
		for len(open) > 0 {
			x := open[len(open)-1]
			open = open[:len(open)-1]
			if least[x] >= 0 {
				continue
			}
			least[x] = first
			open = append(open, p[x])
			for _, q := range others {
				open = append(open, q[x])
			}
		}
	}
	return least
}

// orbitCount counts the orbits by their least points.
func (p perm) orbitCount(others ...perm) int {
	count := 0
	for x, least := range p.orbits(others...) {
		if x == least {
			count++
		}
	}
	return count
}

// advance makes p the next permutation, compared number by number, or reports false at
// the last one. It changes p itself, so that all of them can be gone through in one list.
func (p perm) advance() bool {
	at := len(p) - 2
	for at >= 0 && p[at] > p[at+1] {
		at--
	}
	if at < 0 {
		return false
	}
	with := len(p) - 1
	for p[with] < p[at] {
		with--
	}
	p[at], p[with] = p[with], p[at]
	slices.Reverse(p[at+1:])
	return true
}

func (p perm) order() int {
	order := 1
	for cycle := range p.cycles() {
		order = order / gcd(order, len(cycle)) * len(cycle)
	}
	return order
}

func (p perm) text() string {
	var b strings.Builder
	for cycle := range p.cycles() {
		if len(cycle) < 2 {
			continue
		}
		mark := "("
		for _, x := range cycle {
			b.WriteString(mark)
			b.WriteString(strconv.Itoa(x))
			mark = ","
		}
		b.WriteString(")")
	}
	if b.Len() == 0 {
		return "()"
	}
	return b.String()
}

func gcd(a, b int) int {
	for b != 0 {
		a, b = b, a%b
	}
	return a
}

// permPair reports whether both lists are permutations of as many points.
func permPair(a, b []int) bool {
	return PermValid(a) && PermValid(b) && len(a) == len(b)
}

// PermValid reports whether a list is a permutation.
func PermValid(p []int) bool {
	if len(p) < 1 || len(p) > PointsMax {
		return false
	}
	var seen [PointsMax]bool
	for _, x := range p {
		if x < 0 || x >= len(p) || seen[x] {
			return false
		}
		seen[x] = true
	}
	return true
}

// PermMul returns the permutation that does the first one and then the second one, and true.
func PermMul(a []int, b []int) ([]int, bool) {
	if !permPair(a, b) {
		return nil, false
	}
	return perm(a).then(b), true
}

// PermBack returns the permutation that leads back, and true.
func PermBack(p []int) ([]int, bool) {
	if !PermValid(p) {
		return nil, false
	}
	return perm(p).back(), true
}

// PermPower returns the permutation done k times (or the one that leads back, -k times, for a negative k), and true.
func PermPower(p []int, k int) ([]int, bool) {
	if !PermValid(p) || k < -powerMax || k > powerMax {
		return nil, false
	}
	return perm(p).power(k), true
}

// PermCycles returns all cycles, and true.
func PermCycles(p []int) ([][]int, bool) {
	if !PermValid(p) {
		return nil, false
	}
	return slices.Collect(perm(p).cycles()), true
}

// PermType returns the type, and true.
func PermType(p []int) ([]int, bool) {
	if !PermValid(p) {
		return nil, false
	}
	var lengths []int
	for cycle := range perm(p).cycles() {
		lengths = append(lengths, len(cycle))
	}
	slices.Sort(lengths)
	slices.Reverse(lengths)
	return lengths, true
}

// PermOrder returns the least number of times, 1 or more, after which each point is where it was, or -1 if the list is no permutation.
func PermOrder(p []int) int {
	if !PermValid(p) {
		return -1
	}
	return perm(p).order()
}

// PermSign returns 1 if the number of points less the number of cycles is even, and otherwise -1; or 0 if the list is no permutation.
func PermSign(p []int) int {
	if !PermValid(p) {
		return 0
	}
	if (len(p)-perm(p).cycleCount())%2 == 0 {
		return 1
	}
	return -1
}

// PermConj returns the permutation that is the first one with each point renamed by the second one, and true.
func PermConj(p []int, by []int) ([]int, bool) {
	if !permPair(p, by) {
		return nil, false
	}
	return perm(p).conj(by), true
}

// PermOrbits returns for each point the least point that can be reached from it by two permutations, in any order and as often as needed, and true.
func PermOrbits(a []int, b []int) ([]int, bool) {
	if !permPair(a, b) {
		return nil, false
	}
	return perm(a).orbits(b), true
}

// PermText returns the text of a permutation, or "" if the list is none.
func PermText(p []int) string {
	if !PermValid(p) {
		return ""
	}
	return perm(p).text()
}

// PermFrom returns the permutation of a number of points with a text, and true.
func PermFrom(n int, s string) ([]int, bool) {
	if n < 1 || n > PointsMax {
		return nil, false
	}
	p, ok := readCycles(n, s)
	// A permutation has just one text, so what was read too loosely (points out of
	// order, leading zeros, missing parentheses) shows as a text that differs.
	if !ok || !PermValid(p) || p.text() != s {
		return nil, false
	}
	return p, true
}

// readCycles reads a text loosely: PermFrom holds the text of the result against it.
func readCycles(n int, s string) (perm, bool) {
	p := stillPerm(n)
	inner := strings.TrimSuffix(strings.TrimPrefix(s, "("), ")")
	if inner == "" {
		return p, true
	}
	for part := range strings.SplitSeq(inner, ")(") {
		cycle, ok := readPoints(n, part)
		if !ok {
			return nil, false
		}
		p.lead(cycle)
	}
	return p, true
}

// readPoints reads points with commas between; there is always at least one.
func readPoints(n int, s string) ([]int, bool) {
	var points []int
	for word := range strings.SplitSeq(s, ",") {
		x, err := strconv.Atoi(word)
		if err != nil || x < 0 || x >= n {
			return nil, false
		}
		points = append(points, x)
	}
	return points, true
}
