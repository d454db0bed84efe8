package tests

import (
	"testing"

	"loop.example/surfacemaps/impl"
)

// TestWordGluingsShareNoMemory writes over the gluings of words, and asks for them again.
func TestWordGluingsShareNoMemory(t *testing.T) {
	for _, s := range append(fewWords(), notWords()...) {
		keepsApart(t, "WordGluing of "+s, nil, func() [][]int {
			p, _ := impl.WordGluing(s)
			return [][]int{p}
		})
	}
}

// bytesOf returns the bytes of texts as lists.
func bytesOf(texts ...string) [][]int {
	var out [][]int
	for _, s := range texts {
		var list []int
		for i := range len(s) {
			list = append(list, int(s[i]))
		}
		out = append(out, list)
	}
	return out
}

// wordResults asks all functions of a word, and those of a second one or of a cut with some.
func wordResults(s string) [][]int {
	var texts []string
	note := func(text string, ok bool) { texts = append(texts, text) }
	note(impl.WordNormal(s))
	note(impl.WordTurn(s))
	note(impl.WordBack(s))
	note(impl.WordNames(s))
	note(impl.WordJoin(s, "aBab"))
	note(impl.WordJoin("eE", s))
	note(impl.WordJoin(s, s))
	for i := range len(s) {
		note(impl.WordCut(s, i, i/2))
	}
	p, _ := impl.WordGluing(s)
	lists := append(bytesOf(append(texts, impl.WordClass(s))...), p)
	return append(lists, []int{impl.WordCorners(s), impl.WordNumber(s)})
}

// TestWordsKeepNoState asks for all results of words. A text cannot be written over, so no more is
// asked of the functions that return just texts.
func TestWordsKeepNoState(t *testing.T) {
	keepsNoState(t, append(fewWords(), notWords()...), wordResults)
}
