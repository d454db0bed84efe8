package tests

import (
	"slices"
	"testing"

	"loop.example/surfacemaps/impl"
)

// TestWordValid holds WordValid against the definition: for all texts of up to 6 bytes of some
// letters and others, for all texts of two bytes, and for words in which a byte is another one.
func TestWordValid(t *testing.T) {
	check := func(s string) {
		t.Helper()
		if got := impl.WordValid(s); got != isWord(s) {
			t.Errorf("WordValid(%q) = %v", s, got)
		}
	}
	for _, s := range append(wordsOf("aAeEf ", 5), wordsOf("abAB", 6)...) {
		check(s)
	}
	for first := range 256 {
		for second := range 256 {
			check(string([]byte{byte(first), byte(second)}))
		}
	}
	for _, s := range fewWords() {
		for at := range len(s) {
			changed := []byte(s)
			for b := range 256 {
				changed[at] = byte(b)
				check(string(changed))
			}
			check(s[:at] + s[at+1:])
			check(s[:at] + s[at:at+1] + s[at:])
			check(s[:at] + s[at:at+1] + s[at:at+1] + s[at:])
			check(s[:at] + "ff" + s[at:])
			check(s[:at] + "eE" + s[at:])
		}
	}
	for _, s := range notWords() {
		if impl.WordValid(s) || isWord(s) {
			t.Errorf("WordValid holds for %q", s)
		}
	}
	for _, s := range sampleWords() {
		if !impl.WordValid(s) || !isWord(s) {
			t.Errorf("WordValid does not hold for %q", s)
		}
	}
	if impl.LettersMax != 5 {
		t.Errorf("LettersMax is %d", impl.LettersMax)
	}
}

// failsSame reports an error if WordSame holds for two texts in any order.
func failsSame(t *testing.T, a, b string) {
	t.Helper()
	if impl.WordSame(a, b) || impl.WordSame(b, a) {
		t.Errorf("WordSame holds for %q and %q", a, b)
	}
}

func TestNoWord(t *testing.T) {
	for _, s := range notWords() {
		if got := impl.WordCorners(s); got != -1 {
			t.Errorf("WordCorners(%q) = %d", s, got)
		}
		if got := impl.WordNumber(s); got != -100 {
			t.Errorf("WordNumber(%q) = %d", s, got)
		}
		if impl.WordSided(s) {
			t.Errorf("WordSided holds for %q", s)
		}
		if got := impl.WordClass(s); got != "" {
			t.Errorf("WordClass(%q) = %q", s, got)
		}
		failsText(t, "WordNormal")(impl.WordNormal(s))
		failsText(t, "WordTurn")(impl.WordTurn(s))
		failsText(t, "WordBack")(impl.WordBack(s))
		failsText(t, "WordNames")(impl.WordNames(s))
		fails(t, "WordGluing")(impl.WordGluing(s))
		for _, i := range []int{-1, 0, 1, 2, 3, len(s) - 1, len(s)} {
			for _, k := range []int{-1, 0, 1, i - 1} {
				failsText(t, "WordCut")(impl.WordCut(s, i, k))
			}
		}
		for _, w := range []string{"aA", "aa", "abAB", "abcdABCD", "aabbccddee", s, "a", ""} {
			failsText(t, "WordJoin")(impl.WordJoin(s, w))
			failsText(t, "WordJoin")(impl.WordJoin(w, s))
			failsSame(t, s, w)
		}
	}
}

// TestNotWordTogether joins texts that are no words, but would be one together.
func TestNotWordTogether(t *testing.T) {
	for _, c := range [][2]string{{"a", "A"}, {"ab", "AB"}, {"", "aA"}, {"aA", ""}, {"abA", "B"}, {"abcde", "ABCDE"}, {"aAb", "cCb"}} {
		failsText(t, "WordJoin")(impl.WordJoin(c[0], c[1]))
		failsSame(t, c[0], c[1])
	}
}

// TestNoWordGluing asks for the gluings of words with one side.
func TestNoWordGluing(t *testing.T) {
	for _, s := range sampleWords() {
		if !wordSided(s) {
			fails(t, "WordGluing of "+s)(impl.WordGluing(s))
		}
	}
	for _, s := range []string{"aa", "AA", "EE", "abab", "abaB", "aAbb", "aabB", "abcABc", "abcdeABCDe", "aabbccddee"} {
		fails(t, "WordGluing of "+s)(impl.WordGluing(s))
	}
}

// TestFullJoin joins words that have one letter more than LettersMax together, and more.
func TestFullJoin(t *testing.T) {
	words := fewWords()
	six := 0
	for _, a := range words {
		for _, b := range words {
			if len(a)+len(b) <= 10 {
				continue
			}
			failsText(t, "WordJoin of "+a+" and "+b)(impl.WordJoin(a, b))
			if len(a)+len(b) == 12 {
				six++
			}
		}
	}
	if six < 100 {
		t.Errorf("just %d joins here have one letter too many", six)
	}
	// They share all letters, but would have more.
	failsText(t, "WordJoin")(impl.WordJoin("abcABC", "abcABC"))
	failsText(t, "WordJoin")(impl.WordJoin("abcdeABCDE", "aA"))
	failsText(t, "WordJoin")(impl.WordJoin("aa", "aabbccddee"))
	failsText(t, "WordJoin")(impl.WordJoin("aabbccddee", "aabbccddee"))
}

// TestNoCut asks for cuts at all numbers of sides, and at some that are out of range.
func TestNoCut(t *testing.T) {
	early := 0
	for _, s := range append(fewWords(), someWords(4, 17)...) {
		sides := slices.Concat(outOf(0, len(s)-1), within(0, len(s)-1))
		for _, i := range sides {
			for _, k := range sides {
				if i >= 1 && i < len(s) && k >= 0 && k < i {
					if otherSide(s, k) >= i {
						text(t)(impl.WordCut(s, i, k))
						continue
					}
					early++
				}
				failsText(t, "WordCut of "+s)(impl.WordCut(s, i, k))
			}
		}
	}
	if early < 100 {
		t.Errorf("just %d cuts here have the other side ahead of them", early)
	}
	for _, c := range []struct {
		s    string
		i, k int
	}{
		{"aA", 0, 0}, {"aA", 2, 0}, {"aA", 1, 1}, {"aA", 1, -1}, {"aA", 0, -1},
		// The other side is ahead of the cut, behind k or ahead of it.
		{"aAbB", 2, 0}, {"aAbB", 2, 1}, {"aAbB", 3, 0}, {"aAbB", 3, 1}, {"abAB", 3, 0}, {"abAB", 3, 2}, {"abBA", 3, 1}, {"abBA", 3, 2},
	} {
		failsText(t, "WordCut of "+c.s)(impl.WordCut(c.s, c.i, c.k))
	}
}
