package tests

import (
	"regexp"
	"slices"
	"strconv"
	"strings"
	"testing"

	"loop.example/surfacemaps/impl"
)

// showOf returns what show tells of a map.
func showOf(m impl.Map) string {
	return impl.PermText(m.Turn) + " " + impl.PermText(m.Flip)
}

// tellOf returns what counts tells of a map, by the definitions.
func tellOf(m impl.Map) string {
	_, vertices := cycleOf(m.Turn)
	_, faces := facesOf(m)
	var texts []string
	for _, n := range []int{vertices, len(m.Flip) / 2, faces, genusOf(m)} {
		texts = append(texts, strconv.Itoa(n))
	}
	return strings.Join(texts, " ")
}

// mapLine returns the line that makes a map.
func mapLine(m impl.Map) string {
	return "map " + strconv.Itoa(len(m.Turn)) + " " + showOf(m)
}

// lastLine returns the last line of an output whose map has some darts.
func lastLine(darts int) string {
	return "darts " + strconv.Itoa(darts)
}

// allLines returns the text of some lines, each with its newline.
func allLines(lines ...string) string {
	return strings.Join(lines, "\n") + "\n"
}

// answers reports an error unless a script has just these lines as its output.
func answers(t *testing.T, script string, want ...string) {
	t.Helper()
	sameText(t, "Execute of "+strconv.Quote(script), impl.Execute(script), allLines(want...))
}

// firstMap is the map that is there ahead of a script.
func firstMap() impl.Map {
	return impl.Map{Turn: []int{1, 0}, Flip: []int{1, 0}}
}

// shape is how the lines of a command are written, and what it does with the words behind the
// first one: the map behind it and the answer.
type shape struct {
	form *regexp.Regexp
	do   func(m impl.Map, w []string) (impl.Map, string)
}

// shapeOf returns the shape of a command with some words behind it, of which each may be empty.
func shapeOf(name string, behind int, do func(m impl.Map, w []string) (impl.Map, string)) shape {
	return shape{regexp.MustCompile("^" + name + strings.Repeat(" ([^ ]*)", behind) + "$"), do}
}

// changed answers for a command that makes a map, by what this is and whether there is one.
func changed(call func(m impl.Map, w []string) (impl.Map, bool)) func(m impl.Map, w []string) (impl.Map, string) {
	return func(m impl.Map, w []string) (impl.Map, string) {
		if next, ok := call(m, w); ok {
			return next, "ok"
		}
		return m, "no"
	}
}

// kept answers for a command that leaves the map: an empty text stands for what fails.
func kept(call func(m impl.Map, w []string) string) func(m impl.Map, w []string) (impl.Map, string) {
	return func(m impl.Map, w []string) (impl.Map, string) {
		if text := call(m, w); text != "" {
			return m, text
		}
		return m, "no"
	}
}

var twoDigits = regexp.MustCompile("^[0-9][0-9]?$")

// numberOf returns the number that a word is, or -1.
func numberOf(word string) int {
	if !twoDigits.MatchString(word) {
		return -1
	}
	n, _ := strconv.Atoi(word)
	return n
}

// ofRows returns the text of a number of some rows, all of which go on with 0 up to 5.
func ofRows(rows [][]int, w []string) string {
	row, at := numberOf(w[0]), numberOf(w[1])
	if row < 0 || row > 9 || at < 0 || at > 5 {
		return ""
	}
	return strconv.Itoa(atOrZero(rows[row], at))
}

// valueOf returns the text of the value of a map, choice by choice.
func valueOf(m impl.Map, w []string) string {
	var at []int
	for _, word := range w {
		at = append(at, numberOf(word))
	}
	if slices.Min(at) < 0 || slices.Max(at) > 3 {
		return ""
	}
	return strconv.Itoa(valueAt(termsOf(m), at[0], at[1], at[2]))
}

// lessOf returns a map with an edge less, made in some way, unless the edge is of a kind.
func lessOf(less func(m impl.Map, e int) impl.Map, kind int) func(m impl.Map, w []string) (impl.Map, bool) {
	return func(m impl.Map, w []string) (impl.Map, bool) {
		e := numberOf(w[0])
		if e < 0 || e >= len(m.Flip)/2 || len(m.Flip) == 2 || kindOf(m, e) == kind {
			return impl.Map{}, false
		}
		return less(m, e), true
	}
}

// tutteOver returns the quadrangulation with a vertex in each face of a map.
func tutteOver(m impl.Map, w []string) (impl.Map, bool) {
	if len(m.Turn) > 6 {
		return impl.Map{}, false
	}
	faces := thenPerm(m.Flip, m.Turn)
	quad := impl.Map{Turn: make([]int, 2*len(faces)), Flip: make([]int, 2*len(faces))}
	for d, next := range faces {
		quad.Turn[2*d], quad.Turn[2*next+1] = 2*m.Turn[d], 2*d+1
		quad.Flip[2*d], quad.Flip[2*d+1] = 2*d+1, 2*d
	}
	return quad, true
}

// treeOver returns the quadrangulation of the tree with a Word and no steps but 0.
func treeOver(m impl.Map, w []string) (impl.Map, bool) {
	tree := impl.Tree{Word: w[0], Steps: make([]int, strings.Count(w[0], "("))}
	if !isTree(tree) {
		return impl.Map{}, false
	}
	quad, _ := quadOf(tree)
	return quad, true
}

// shapes has all commands, by the definitions of their chapters where the tests have some.
var shapes = []shape{
	shapeOf("map", 3, changed(func(m impl.Map, w []string) (impl.Map, bool) {
		next := mapOf(numberOf(w[0]), w[1], w[2])
		return next, isMap(next)
	})),
	shapeOf("dual", 0, changed(func(m impl.Map, w []string) (impl.Map, bool) {
		return impl.Map{Turn: thenPerm(m.Flip, m.Turn), Flip: m.Flip}, true
	})),
	shapeOf("mirror", 0, changed(func(m impl.Map, w []string) (impl.Map, bool) {
		return impl.Map{Turn: stepped(m.Turn, -1), Flip: m.Flip}, true
	})),
	shapeOf("least", 0, changed(func(m impl.Map, w []string) (impl.Map, bool) { return impl.MapLeast(m) })),
	shapeOf("form", 1, changed(func(m impl.Map, w []string) (impl.Map, bool) { return impl.MapForm(m, numberOf(w[0])) })),
	shapeOf("delete", 1, changed(lessOf(deleteOf, 1))),
	shapeOf("contract", 1, changed(lessOf(contractOf, 2))),
	shapeOf("tutte", 0, changed(tutteOver)),
	shapeOf("tree", 1, changed(treeOver)),
	shapeOf("show", 0, kept(func(m impl.Map, w []string) string { return showOf(m) })),
	shapeOf("counts", 0, kept(func(m impl.Map, w []string) string { return tellOf(m) })),
	shapeOf("value", 3, kept(valueOf)),
	shapeOf("count", 2, kept(func(m impl.Map, w []string) string { return ofRows(rootedRows(), w) })),
	shapeOf("glue", 2, kept(func(m impl.Map, w []string) string { return ofRows(gluingRows(), w) })),
	shapeOf("class", 1, kept(func(m impl.Map, w []string) string {
		if !isWord(w[0]) {
			return ""
		}
		return wordClass(w[0])
	})),
}

// outputOf returns the output of a script by the document.
func outputOf(script string) string {
	if len(script) > 500 {
		return "too long\n"
	}
	m := firstMap()
	lines := strings.Split(script, "\n")
	var out []string
	for _, line := range lines[:len(lines)-1] {
		answer := "what"
		for _, s := range shapes {
			if parts := s.form.FindStringSubmatch(line); parts != nil {
				m, answer = s.do(m, parts[1:])
			}
		}
		out = append(out, answer)
	}
	return allLines(append(out, lastLine(len(m.Turn)))...)
}

// asDocument reports an error unless Execute tells what the document does.
func asDocument(t *testing.T, script string) {
	t.Helper()
	sameText(t, "Execute of "+strconv.Quote(script), impl.Execute(script), outputOf(script))
}

// filled returns a script of complete lines and further ones that are no commands, up to a number
// of bytes, of which at least one is left.
func filled(script string, size int) string {
	for size-len(script) > 60 {
		script += strings.Repeat("x", 20) + "\n"
	}
	return script + strings.Repeat("y", size-len(script)-1) + "\n"
}

// knownScript is a script of complete lines with the output that was worked out for it by hand.
type knownScript struct {
	lines []string
	want  []string
}

func (k knownScript) script() string {
	if len(k.lines) == 0 {
		return ""
	}
	return allLines(k.lines...)
}

// knownScripts has each command where it succeeds and where it fails, with what show tells behind.
func knownScripts() []knownScript {
	const (
		tail   = "map 4 (0,1,2) (0,1)(2,3)" // a loop with a bridge
		ring   = "map 4 (0,3)(1,2) (0,1)(2,3)"
		cross  = "map 4 (0,1,2,3) (0,2)(1,3)"
		theta  = "map 6 (0,2,4)(1,3,5) (0,1)(2,3)(4,5)"
		rows   = "map 12 (0,2,6)(3,4)(7,8)(9,10) " + edges6
		across = "map 12 (0,1,2,3,4,5,6,7,8,9,10,11) (0,6)(1,7)(2,8)(3,9)(4,10)(5,11)"
	)
	return []knownScript{
		{nil, []string{"darts 2"}},
		{[]string{""}, []string{"what", "darts 2"}},
		{[]string{"", ""}, []string{"what", "what", "darts 2"}},
		// Maps of the fewest and the most darts, of the genus 0 and greater.
		{[]string{"show", "counts"}, []string{"(0,1) (0,1)", "1 1 2 0", "darts 2"}},
		{[]string{"map 2 () (0,1)", "show", "counts"}, []string{"ok", "() (0,1)", "2 1 1 0", "darts 2"}},
		{[]string{"map 02 () (0,1)", "show"}, []string{"ok", "() (0,1)", "darts 2"}},
		{[]string{across, "show", "counts"}, []string{"ok", "(0,1,2,3,4,5,6,7,8,9,10,11) (0,6)(1,7)(2,8)(3,9)(4,10)(5,11)", "1 6 1 3", "darts 12"}},
		{[]string{rows, "show", "counts"}, []string{"ok", "(0,2,6)(3,4)(7,8)(9,10) " + edges6, "7 6 1 0", "darts 12"}},
		{[]string{cross, "counts"}, []string{"ok", "1 2 1 1", "darts 4"}},
		{[]string{cross, ring, "counts"}, []string{"ok", "ok", "2 2 2 0", "darts 4"}},
		// dual, mirror, least and form.
		{[]string{"dual", "show", "counts", "dual", "show"}, []string{"ok", "() (0,1)", "2 1 1 0", "ok", "(0,1) (0,1)", "darts 2"}},
		{[]string{theta, "dual", "show", "counts"}, []string{"ok", "ok", "(0,3,4,1,2,5) (0,1)(2,3)(4,5)", "1 3 2 1", "darts 6"}},
		{[]string{rows, "mirror", "show", "mirror", "show"}, []string{"ok", "ok", "(0,6,2)(3,4)(7,8)(9,10) " + edges6, "ok", "(0,2,6)(3,4)(7,8)(9,10) " + edges6, "darts 12"}},
		{[]string{tail, "least", "show"}, []string{"ok", "ok", "(1,2,3) (0,1)(2,3)", "darts 4"}},
		{[]string{tail, "form 0", "show"}, []string{"ok", "ok", "(0,1,2) (0,1)(2,3)", "darts 4"}},
		{[]string{tail, "form 1", "show"}, []string{"ok", "ok", "(0,1,2) (0,2)(1,3)", "darts 4"}},
		{[]string{tail, "form 2", "show"}, []string{"ok", "ok", "(0,1,3) (0,2)(1,3)", "darts 4"}},
		{[]string{tail, "form 3", "show"}, []string{"ok", "ok", "(1,2,3) (0,1)(2,3)", "darts 4"}},
		{[]string{tail, "form 03", "show"}, []string{"ok", "ok", "(1,2,3) (0,1)(2,3)", "darts 4"}},
		{[]string{tail, "form 4", "show"}, []string{"ok", "no", "(0,1,2) (0,1)(2,3)", "darts 4"}},
		{[]string{rows, "form 11", "show"}, []string{"ok", "ok", "(1,2)(3,4)(5,6,7)(9,10) (0,1)(2,3)(4,5)(6,8)(7,9)(10,11)", "darts 12"}},
		{[]string{rows, "form 12", "show"}, []string{"ok", "no", "(0,2,6)(3,4)(7,8)(9,10) " + edges6, "darts 12"}},
		{[]string{"form 1", "form 2", "form 001", "form -1", "form +1", "form 1.", "form one", "form "}, []string{"ok", "no", "no", "no", "no", "no", "no", "no", "darts 2"}},
		// delete and contract.
		{[]string{tail, "delete 0", "show"}, []string{"ok", "ok", "() (0,1)", "darts 2"}},
		{[]string{tail, "delete 1", "show"}, []string{"ok", "no", "(0,1,2) (0,1)(2,3)", "darts 4"}},
		{[]string{tail, "delete 2", "show"}, []string{"ok", "no", "(0,1,2) (0,1)(2,3)", "darts 4"}},
		{[]string{tail, "contract 0", "show"}, []string{"ok", "no", "(0,1,2) (0,1)(2,3)", "darts 4"}},
		{[]string{tail, "contract 1", "show"}, []string{"ok", "ok", "(0,1) (0,1)", "darts 2"}},
		{[]string{tail, "contract 2", "show"}, []string{"ok", "no", "(0,1,2) (0,1)(2,3)", "darts 4"}},
		{[]string{theta, "delete 1", "show"}, []string{"ok", "ok", "(0,2)(1,3) (0,1)(2,3)", "darts 4"}},
		{[]string{theta, "contract 1", "show"}, []string{"ok", "ok", "(0,3,1,2) (0,1)(2,3)", "darts 4"}},
		{[]string{theta, "delete 02", "contract 00", "show"}, []string{"ok", "ok", "ok", "(0,1) (0,1)", "darts 2"}},
		{[]string{theta, "delete 3", "contract 3", "show"}, []string{"ok", "no", "no", "(0,2,4)(1,3,5) (0,1)(2,3)(4,5)", "darts 6"}},
		{[]string{rows, "contract 5", "contract 5", "counts"}, []string{"ok", "ok", "no", "6 5 1 0", "darts 10"}},
		{[]string{"delete 0", "contract 0", "delete 1", "dual", "delete 0", "contract 0", "contract 1", "show"}, []string{"no", "no", "no", "ok", "no", "no", "no", "() (0,1)", "darts 2"}},
		// tutte and tree.
		{[]string{"tutte", "show", "tutte", "counts", "tutte"}, []string{"ok", "(0,2) (0,1)(2,3)", "ok", "4 4 2 0", "no", "darts 8"}},
		{[]string{"map 6 (0,5)(1,2)(3,4) (0,1)(2,3)(4,5)", "tutte", "show", "tutte", "counts"}, []string{"ok", "ok", "(0,10)(1,9,5)(2,4)(3,7,11)(6,8) " + edges6, "no", "5 6 3 0", "darts 12"}},
		{[]string{"map 8 (0,1,2,3,4,5,6,7) (0,1)(2,3)(4,5)(6,7)", "tutte"}, []string{"ok", "no", "darts 8"}},
		{[]string{"tree ()", "show", "counts"}, []string{"ok", "(1,3) (0,1)(2,3)", "3 2 1 0", "darts 4"}},
		{[]string{"tree (())", "show"}, []string{"ok", "(1,7,5,3)(2,6) (0,1)(2,3)(4,5)(6,7)", "darts 8"}},
		{[]string{"tree ()()", "show"}, []string{"ok", "(0,4)(1,7,5,3) (0,1)(2,3)(4,5)(6,7)", "darts 8"}},
		{[]string{"tree ((()))", "show"}, []string{"ok", "(1,11,9,7,5,3)(2,10)(4,8) " + edges6, "darts 12"}},
		{[]string{"tree (()())", "counts"}, []string{"ok", "5 6 3 0", "darts 12"}},
		{[]string{"tree ", "tree ()()()()", "tree (((())))", "tree )(", "tree (", "tree ())", "tree 1", "tree []"}, []string{"no", "no", "no", "no", "no", "no", "no", "no", "darts 2"}},
		// value, count, glue and class.
		{[]string{"value 3 3 3", "value 0 0 0", "value 0 02 00", "value 4 0 0", "value 0 4 0", "value 0 0 4", "value 003 0 0", "value 0  0"}, []string{"4", "1", "3", "no", "no", "no", "no", "no", "darts 2"}},
		{[]string{cross, "value 0 2 3", "value 3 2 1", "value 1 1 1"}, []string{"ok", "17", "9", "4", "darts 4"}},
		{[]string{theta, "value 2 3 1", "value 3 0 0"}, []string{"ok", "23", "6", "darts 6"}},
		{[]string{"count 0 0", "count 0 1", "count 1 0", "count 2 1", "count 9 2", "count 09 04", "count 9 5"}, []string{"1", "0", "2", "1", "248371380", "24635754", "0", "darts 2"}},
		{[]string{"count 10 0", "count 9 6", "count 0 6", "count -1 0", "count 0 x", "count  0", "count 0 "}, []string{"no", "no", "no", "no", "no", "no", "no", "darts 2"}},
		{[]string{"glue 0 0", "glue 0 1", "glue 1 0", "glue 2 1", "glue 9 4", "glue 09 05", "glue 4 02"}, []string{"1", "0", "1", "1", "12317877", "0", "21", "darts 2"}},
		{[]string{"glue 10 0", "glue 9 6", "glue 0 6", "glue 0 -1", "glue x 0", "glue  0", "glue 0 "}, []string{"no", "no", "no", "no", "no", "no", "no", "darts 2"}},
		{[]string{"class aA", "class abAB", "class abABcdCD", "class aa", "class abaB", "class aabbccddee", "class EdDe"}, []string{"S0", "S1", "S2", "P1", "P2", "P5", "S0", "darts 2"}},
		{[]string{"class ", "class a", "class ab", "class aaa", "class ff", "class aAbBcCdDeEaA", "class 1"}, []string{"no", "no", "no", "no", "no", "no", "no", "darts 2"}},
		// What fails and what is no command changes nothing.
		{[]string{rows, "map 2 () ()", "tree x", "tutte", "form 12", "delete 0", "contract 6", "what", "", "dual 0", "show"},
			[]string{"ok", "no", "no", "no", "no", "no", "no", "what", "what", "what", "(0,2,6)(3,4)(7,8)(9,10) " + edges6, "darts 12"}},
	}
}
