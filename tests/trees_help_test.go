package tests

import (
	"cmp"
	"math"
	"slices"
	"strings"
	"testing"

	"loop.example/surfacemaps/impl"
)

// knownTree is a tree with what was worked out for it by hand.
type knownTree struct {
	tree   impl.Tree
	labels []int
	next   []int
	turn   string // of TreeMap
	quad   string // the Turn of TreeQuad
	point  int
}

// knownTrees has the trees of one edge, some of two, and some of TreeMax edges: a star with
// successors behind the end of the walk, a row, and two edges above another one.
func knownTrees() []knownTree {
	return []knownTree{
		{impl.Tree{Word: "()", Steps: []int{0}}, []int{0, 0}, []int{-1, -1}, "()", "(1,3)", 1},
		{impl.Tree{Word: "()", Steps: []int{1}}, []int{0, 1}, []int{-1, 0}, "()", "(0,3)", 1},
		{impl.Tree{Word: "()", Steps: []int{-1}}, []int{0, -1}, []int{1, -1}, "()", "(1,2)", 3},
		{impl.Tree{Word: "()()", Steps: []int{1, 1}}, []int{0, 1, 0, 1}, []int{-1, 2, -1, 0}, "(0,2)", "(0,3,4,7)(1,5)", 1},
		{impl.Tree{Word: "(())", Steps: []int{1, 1}}, []int{0, 1, 2, 1}, []int{-1, 0, 3, 0}, "(1,3)", "(0,7,3)(2,5,6)", 1},
		{impl.Tree{Word: "()()()", Steps: []int{0, -1, 1}}, []int{0, 0, 0, -1, 0, 1}, []int{3, 3, 3, -1, 3, 0}, "(0,2,4)", "(0,4,8,11)(1,9,6,5,3)", 7},
		{impl.Tree{Word: "((()))", Steps: []int{-1, 0, 1}}, []int{0, -1, -1, 0, -1, -1}, []int{1, -1, -1, 4, -1, -1}, "(1,5)(2,4)", "(1,2,10)(3,11,9,5)(4,7,8)", 3},
		{impl.Tree{Word: "(()())", Steps: []int{0, 1, -1}}, []int{0, 0, 1, 0, -1, 0}, []int{4, 4, 3, 4, -1, 4}, "(1,3,5)", "(1,11,8,7,3)(2,5,6,10)", 9},
	}
}

// isNested tells whether a word vanishes, if pairs of letters that belong together are taken out.
func isNested(word string) bool {
	for strings.Contains(word, "()") {
		word = strings.ReplaceAll(word, "()", "")
	}
	return word == ""
}

// isTree tells by the definition whether a tree is valid.
func isTree(tree impl.Tree) bool {
	for _, step := range tree.Steps {
		if step != -1 && step != 0 && step != 1 {
			return false
		}
	}
	edges := strings.Count(tree.Word, "(")
	return isNested(tree.Word) && edges == len(tree.Steps) && edges >= 1 && edges <= 3
}

// wordsOf returns all words of some letters up to a length, the shorter ones first.
func wordsOf(letters string, length int) []string {
	words := []string{""}
	for begin := 0; len(words[begin]) < length; begin++ {
		for _, letter := range letters {
			words = append(words, words[begin]+string(letter))
		}
	}
	return words
}

// stepsOf returns all lists of n numbers from least to most, sorted.
func stepsOf(n, least, most int) [][]int {
	lists := [][]int{nil}
	for range n {
		var next [][]int
		for _, l := range lists {
			for x := least; x <= most; x++ {
				next = append(next, append(slices.Clone(l), x))
			}
		}
		lists = next
	}
	return lists
}

// allTrees returns all trees with n edges, sorted.
func allTrees(n int) []impl.Tree {
	var out []impl.Tree
	for _, word := range wordsOf("()", 2*n) {
		if len(word) != 2*n || !isNested(word) {
			continue
		}
		for _, steps := range stepsOf(n, -1, 1) {
			out = append(out, impl.Tree{Word: word, Steps: steps})
		}
	}
	slices.SortStableFunc(out, compareTrees)
	return out
}

// sampleTrees returns all trees there are, of 1 to TreeMax edges.
func sampleTrees() []impl.Tree {
	return slices.Concat(allTrees(1), allTrees(2), allTrees(3))
}

func compareTrees(a, b impl.Tree) int {
	return cmp.Or(cmp.Compare(a.Word, b.Word), slices.Compare(a.Steps, b.Steps))
}

// sameTree reports an error if two trees differ.
func sameTree(t *testing.T, what string, got, want impl.Tree) {
	t.Helper()
	if compareTrees(got, want) != 0 {
		t.Errorf("%s: %v instead of %v", what, got, want)
	}
}

// matchOf returns for each letter of a word that of the same edge: from each `(` on, the
// first `)` with a word between that is nested.
func matchOf(word string) []int {
	match := make([]int, len(word))
	for up := range word {
		for down := len(word) - 1; down > up; down-- {
			if word[up] == '(' && word[down] == ')' && isNested(word[up+1:down]) {
				match[up], match[down] = down, up
			}
		}
	}
	return match
}

// labelsOf returns the labels of the corners: each one is the sum of the steps of all edges
// that are walked up and not yet down.
func labelsOf(tree impl.Tree) []int {
	match := matchOf(tree.Word)
	labels := make([]int, len(tree.Word))
	edge := 0
	for up, letter := range tree.Word {
		if letter != '(' {
			continue
		}
		for corner := up + 1; corner <= match[up]; corner++ {
			labels[corner] += tree.Steps[edge]
		}
		edge++
	}
	return labels
}

// nextOf returns the successors by the definition: the first corner behind whose label is 1 less.
func nextOf(labels []int) []int {
	next := slices.Repeat([]int{-1}, len(labels))
	for corner, label := range labels {
		for behind := len(labels) - 1; behind > 0; behind-- {
			if other := (corner + behind) % len(labels); labels[other] == label-1 {
				next[corner] = other
			}
		}
	}
	return next
}

// cornerVertex returns for each corner the least one at its vertex: behind both letters of
// an edge, from the first one up or down and back, are corners of one vertex.
func cornerVertex(word string) []int {
	match := matchOf(word)
	least := stay(len(word))
	for range word {
		for corner := range word {
			other := (match[corner] + 1) % len(word)
			first := min(least[corner], least[other])
			least[corner], least[other] = first, first
		}
	}
	return least
}

// quadOf returns the quadrangulation of a tree and the least dart of its point: all darts
// are sorted by their vertices, corners and places there, and each vertex is closed then.
func quadOf(tree impl.Tree) (impl.Map, int) {
	next, vertex := nextOf(labelsOf(tree)), cornerVertex(tree.Word)
	n := len(next)
	place := make([][]int, 2*n)
	point := -1
	for corner, to := range next {
		place[2*corner] = []int{vertex[corner], corner, n}
		if to < 0 {
			place[2*corner+1] = []int{n, 0, -corner}
			if point < 0 {
				point = 2*corner + 1
			}
		} else {
			place[2*corner+1] = []int{vertex[to], to, (to - corner + n) % n}
		}
	}
	darts := stay(2 * n)
	slices.SortFunc(darts, func(a, b int) int { return slices.Compare(place[a], place[b]) })
	m := impl.Map{Turn: make([]int, 2*n), Flip: make([]int, 2*n)}
	for i, first := 0, 0; i < len(darts); i++ {
		m.Flip[i] = i ^ 1
		if i+1 < len(darts) && place[darts[i]][0] == place[darts[i+1]][0] {
			m.Turn[darts[i]] = darts[i+1]
			continue
		}
		m.Turn[darts[i]] = darts[first]
		first = i + 1
	}
	return m, point
}

// treeQuads returns the quadrangulations of all trees, made here.
func treeQuads() []impl.Map {
	var out []impl.Map
	for _, tree := range sampleTrees() {
		m, _ := quadOf(tree)
		out = append(out, m)
	}
	return out
}

// allQuads returns quadrangulations with n faces of all genera: each one there is can be
// renamed so that its faces go around the darts 0 to 3, 4 to 7, and so on.
func allQuads(n int) []impl.Map {
	faces := stay(4 * n)
	for d := range faces {
		faces[d] = d/4*4 + (d+1)%4
	}
	var out []impl.Map
	for _, flip := range allGluings(2 * n) {
		if m := (impl.Map{Turn: thenPerm(flip, faces), Flip: flip}); isMap(m) {
			out = append(out, m)
		}
	}
	return out
}

// rootedQuads returns the forms of all quadrangulations with n faces and a genus.
func rootedQuads(n, g int) []impl.Map {
	var out []impl.Map
	for _, m := range allQuads(n) {
		if genusOf(m) != g {
			continue
		}
		for d := range m.Turn {
			form, _ := impl.MapForm(m, d)
			out = append(out, form)
		}
	}
	slices.SortFunc(out, compareMaps)
	return slices.CompactFunc(out, func(a, b impl.Map) bool { return compareMaps(a, b) == 0 })
}

// isQuad tells by the definition whether lists are a map whose faces all have 4 darts.
func isQuad(m impl.Map) bool {
	if !isMap(m) {
		return false
	}
	faces := typeOf(thenPerm(m.Flip, m.Turn))
	return slices.Min(faces) == 4 && slices.Max(faces) == 4
}

// farDarts returns for each dart the distance of its vertex from that of another one.
func farDarts(m impl.Map, from int) []int {
	vertex, _ := cycleOf(m.Turn)
	all := farAll(m)
	far := make([]int, len(vertex))
	for d, v := range vertex {
		far[d] = all[vertex[from]][v]
	}
	return far
}

// edgesOf returns the text of the Flip by which the darts 0 and 1 are an edge, 2 and 3, and so on.
func edgesOf(darts int) string {
	flip := stay(darts)
	for d := range flip {
		flip[d] = d ^ 1
	}
	return impl.PermText(flip)
}

// notTrees returns trees that are invalid.
func notTrees() []impl.Tree {
	out := []impl.Tree{
		{},
		// Empty, too short or too long words.
		{Steps: []int{0}}, {Steps: []int{1, 0}},
		{Word: "(", Steps: []int{0}}, {Word: ")", Steps: []int{0}}, {Word: "(((", Steps: []int{0, 0}}, {Word: "()(", Steps: []int{0}}, {Word: "()(", Steps: []int{0, 0}},
		{Word: "(((())))", Steps: []int{0, 0, 0, 0}}, {Word: "()()()()", Steps: []int{1, 1, 1, 1}}, {Word: "(()())()", Steps: []int{0, 1, 0, 1}}, {Word: "()()()()", Steps: []int{0, 0, 0}},
		{Word: strings.Repeat("()", 1000), Steps: make([]int, 1000)}, {Word: strings.Repeat("(", 500) + strings.Repeat(")", 500), Steps: make([]int, 500)},
		// Words that are not well nested.
		{Word: ")(", Steps: []int{0}}, {Word: "((", Steps: []int{0}}, {Word: "))", Steps: []int{0}},
		{Word: "())(", Steps: []int{0, 0}}, {Word: "((()", Steps: []int{0, 0}}, {Word: "()))", Steps: []int{0, 0}}, {Word: "))((", Steps: []int{0, 0}}, {Word: ")()(", Steps: []int{0, 0}},
		{Word: "())()(", Steps: []int{1, 1, 1}}, {Word: "(()))(", Steps: []int{1, 1, 1}}, {Word: "((((()", Steps: []int{1, 1, 1}}, {Word: ")(()()", Steps: []int{1, 1, 1}}, {Word: "()())(", Steps: []int{0, 0, 0}},
		// Other letters.
		{Word: "[]", Steps: []int{0}}, {Word: "(]", Steps: []int{0}}, {Word: "{)", Steps: []int{0}}, {Word: "01", Steps: []int{0}}, {Word: "( )", Steps: []int{0}}, {Word: "()  ", Steps: []int{0, 0}}, {Word: " ()", Steps: []int{0}},
		{Word: "()\n", Steps: []int{0}}, {Word: "(x)", Steps: []int{0}}, {Word: "(xx)", Steps: []int{0, 0}}, {Word: "\x00\x00", Steps: []int{0}}, {Word: "(\xff", Steps: []int{0}}, {Word: "\xff)", Steps: []int{0}}, {Word: "()\xc3\xa9", Steps: []int{0, 0}},
		{Word: "\uff08\uff09", Steps: []int{0, 0, 0}}, {Word: "\uff08)()", Steps: []int{0, 0, 0}}, {Word: "*)", Steps: []int{0}}, {Word: "('", Steps: []int{0}},
		// Steps too few or too many.
		{Word: "()"}, {Word: "()", Steps: []int{0, 0}}, {Word: "()", Steps: []int{0, 0, 0}}, {Word: "(())", Steps: []int{1}}, {Word: "(())", Steps: []int{1, 1, 1}}, {Word: "()()"},
		{Word: "()()()", Steps: []int{0, 0}}, {Word: "()()()", Steps: []int{0, 0, 0, 0}}, {Word: "()", Steps: make([]int, 1000)},
	}
	// Steps out of range, at each place.
	for _, k := range knownTrees() {
		for at := range k.tree.Steps {
			for _, step := range []int{-2, 2, -3, 3, 9, 1000, math.MaxInt, math.MinInt, math.MaxInt8 + 2} {
				steps := slices.Clone(k.tree.Steps)
				steps[at] = step
				out = append(out, impl.Tree{Word: k.tree.Word, Steps: steps})
			}
		}
	}
	return out
}
