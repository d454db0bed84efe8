package tests

import (
	"strings"
	"testing"

	"loop.example/surfacemaps/impl"
)

// TestKnownWords holds all functions that tell of one word against what was worked out by hand.
func TestKnownWords(t *testing.T) {
	for _, k := range knownWords() {
		if !impl.WordValid(k.s) {
			t.Fatalf("%s is no word", k.s)
		}
		letters := len(k.s) / 2
		sameList(t, "corners and number of "+k.s,
			[]int{impl.WordCorners(k.s), impl.WordNumber(k.s)}, []int{k.corners, k.corners - letters + 1})
		if impl.WordSided(k.s) != (k.class[0] == 'S') {
			t.Errorf("WordSided of %s is %v", k.s, impl.WordSided(k.s))
		}
		sameText(t, "WordClass of "+k.s, impl.WordClass(k.s), k.class)
		sameText(t, "WordNormal of "+k.s, text(t)(impl.WordNormal(k.s)), k.normal)
		sameText(t, "WordTurn of "+k.s, text(t)(impl.WordTurn(k.s)), k.turned)
		sameText(t, "WordBack of "+k.s, text(t)(impl.WordBack(k.s)), k.back)
		sameText(t, "WordNames of "+k.s, text(t)(impl.WordNames(k.s)), k.names)
	}
}

// TestKnownCuts has cuts that were worked out by hand.
func TestKnownCuts(t *testing.T) {
	for _, c := range []struct {
		s    string
		i, k int
		want string
	}{
		// One letter: nothing is ahead of it, between both sides or behind them.
		{"aA", 1, 0, "aA"}, {"Aa", 1, 0, "aA"}, {"aa", 1, 0, "aa"}, {"AA", 1, 0, "aa"},
		{"cC", 1, 0, "cC"}, {"Dd", 1, 0, "dD"}, {"ee", 1, 0, "ee"}, {"EE", 1, 0, "ee"},
		// Two letters, along the first or the second one, at all places.
		{"abBA", 1, 0, "aAbB"}, {"abBA", 2, 0, "baAB"}, {"abBA", 3, 0, "bBaA"}, {"abBA", 2, 1, "baAB"},
		{"abAB", 1, 0, "aBAb"}, {"abAB", 2, 0, "baBA"}, {"abAB", 2, 1, "baBA"}, {"abAB", 3, 1, "AbaB"},
		{"abab", 1, 0, "aBaB"}, {"abab", 2, 0, "baaB"}, {"abab", 2, 1, "baAb"}, {"abab", 3, 1, "abab"},
		{"aAbB", 1, 0, "abBA"}, {"aAbB", 3, 2, "baAB"},
		// Large at the first side, at the second one or at both of them.
		{"abBa", 2, 0, "baba"}, {"ABAB", 2, 0, "Baab"}, {"ABAB", 2, 1, "bAab"}, {"Abab", 2, 0, "babA"}, {"Abab", 2, 1, "bAAb"},
		// Letters at all four places, or just at two of them.
		{"abcABC", 3, 1, "cbaCBA"}, {"abcabc", 3, 1, "cbaAbC"}, {"aBcabC", 3, 1, "cbaCBa"}, {"aBcaBC", 3, 1, "cbaAbc"},
		{"abcdeABCDE", 5, 2, "decabDECAB"}, {"abcdeABCDE", 1, 0, "aBCDEAbcde"}, {"abcdeABCDE", 9, 4, "ABCDeabcdE"},
		{"abcdeabcde", 5, 2, "decabBAcED"}, {"abcdeabcde", 1, 0, "aEDCBaEDCB"}, {"abcdeabcde", 9, 4, "abcdeabcde"},
	} {
		sameText(t, "WordCut of "+c.s, text(t)(impl.WordCut(c.s, c.i, c.k)), c.want)
	}
}

// TestKnownJoins has words that were joined by hand: up to LettersMax letters, words that share
// letters, and letters that are not the first ones.
func TestKnownJoins(t *testing.T) {
	for _, c := range [][3]string{
		{"aa", "aA", "aabB"}, {"aA", "aa", "aAbb"}, {"aA", "aA", "aAbB"}, {"aa", "aa", "aabb"},
		{"eE", "Ee", "aAbB"}, {"CC", "cc", "aabb"}, {"aa", "bb", "aabb"}, {"bb", "aa", "aabb"},
		{"abAB", "abAB", "abABcdCD"}, {"DcdC", "eBEb", "abABcdCD"}, {"abAB", "cc", "abABcc"}, {"cc", "abAB", "aabcBC"},
		{"abAB", "abcABC", "abABcdeCDE"}, {"abcABC", "abAB", "abcABCdeDE"}, {"eE", "edcbEDCB", "aAbcdeBCDE"},
		{"aabbccdd", "DD", "aabbccddee"}, {"dcbaDCBA", "cC", "abcdABCDeE"}, {"BaCaBC", "EDDe", "abcbacdeeD"},
	} {
		sameText(t, "WordJoin of "+c[0]+" and "+c[1], text(t)(impl.WordJoin(c[0], c[1])), c[2])
	}
}

// TestKnownWordGluings has words with the partners of their sides.
func TestKnownWordGluings(t *testing.T) {
	for s, want := range map[string][]int{
		"aA":         {1, 0},
		"Ee":         {1, 0},
		"abAB":       {2, 3, 0, 1},
		"DcdC":       {2, 3, 0, 1},
		"aAbB":       {1, 0, 3, 2},
		"bAaB":       {3, 2, 1, 0},
		"abCABc":     {3, 4, 5, 0, 1, 2},
		"bcaABC":     {4, 5, 3, 2, 0, 1},
		"abABcdCD":   {2, 3, 0, 1, 6, 7, 4, 5},
		"abcdeABCDE": {5, 6, 7, 8, 9, 0, 1, 2, 3, 4},
		"edcbaABCDE": {9, 8, 7, 6, 5, 4, 3, 2, 1, 0},
	} {
		sameList(t, "WordGluing of "+s, must[[]int](t)(impl.WordGluing(s)), want)
	}
}

// Promise 84: words.
func TestPromise84Valid(t *testing.T) {
	for _, s := range sampleWords() {
		for _, w := range []string{s, text(t)(impl.WordTurn(s)), text(t)(impl.WordBack(s)), text(t)(impl.WordNames(s))} {
			if !impl.WordValid(w) || !isWord(w) || len(w) != len(s) {
				t.Errorf("%q, of %q, is no word", w, s)
			}
		}
		if impl.WordValid(s[1:]) || impl.WordValid(s[:len(s)-1]) {
			t.Errorf("WordValid holds for %q without a letter", s)
		}
	}
}

// Promise 85: corners.
func TestPromise85Corners(t *testing.T) {
	many := map[[2]int]int{}
	for _, s := range sampleWords() {
		letters := len(s) / 2
		corners := impl.WordCorners(s)
		if want := wordCorners(s); corners != want || corners < 1 || corners > letters+1 {
			t.Errorf("WordCorners(%q) = %d instead of %d", s, corners, want)
		}
		many[[2]int{letters, corners}]++
		for _, w := range []string{text(t)(impl.WordTurn(s)), text(t)(impl.WordBack(s)), text(t)(impl.WordNames(s))} {
			if got := impl.WordCorners(w); got != corners {
				t.Errorf("%q has %d corners, but %q has %d", s, corners, w, got)
			}
		}
		if !wordSided(s) {
			continue
		}
		if got := impl.GluingCorners(must[[]int](t)(impl.WordGluing(s))); got != corners {
			t.Errorf("%q has %d corners, but its gluing %d", s, corners, got)
		}
	}
	for letters := 1; letters <= 5; letters++ {
		if many[[2]int{letters, 1}] < 5 || many[[2]int{letters, letters + 1}] < 5 {
			t.Errorf("too few words of %d letters have one corner or the greatest number of them: %v", letters, many)
		}
	}
}

// Promise 86: the number.
func TestPromise86Number(t *testing.T) {
	for _, s := range sampleWords() {
		number, sided := impl.WordNumber(s), wordSided(s)
		if want := wordCorners(s) - len(s)/2 + 1; number != want || number > 2 || number == 2 && !sided {
			t.Errorf("WordNumber(%q) = %d instead of %d", s, number, want)
		}
		if !sided {
			continue
		}
		m := must[impl.Map](t)(impl.GluingMap(must[[]int](t)(impl.WordGluing(s))))
		if number%2 != 0 || number != 2-2*impl.MapGenus(m) {
			t.Errorf("WordNumber(%q) = %d, but the genus is %d", s, number, impl.MapGenus(m))
		}
	}
}

// inOtherForm returns a word with the letter of one side in its other form.
func inOtherForm(s string, side int) string {
	return s[:side] + string(otherForm(rune(s[side]))) + s[side+1:]
}

// Promise 87: words with two sides. A word with one has two when all letters are changed that are
// there twice in one form.
func TestPromise87Sided(t *testing.T) {
	sided, others := 0, 0
	for _, s := range sampleWords() {
		got := impl.WordSided(s)
		if got != wordSided(s) {
			t.Errorf("WordSided(%q) = %v", s, got)
		}
		for _, w := range []string{text(t)(impl.WordTurn(s)), text(t)(impl.WordBack(s)), text(t)(impl.WordNames(s)), text(t)(impl.WordNormal(s))} {
			if impl.WordSided(w) != got {
				t.Errorf("WordSided(%q) = %v, but not for %q", s, got, w)
			}
		}
		if got {
			sided++
			for side := range len(s) {
				if w := inOtherForm(s, side); impl.WordSided(w) {
					t.Errorf("WordSided holds for %q", w)
				}
			}
			continue
		}
		others++
		if w := strings.ToLower(s); impl.WordSided(w) {
			t.Errorf("WordSided holds for %q", w)
		}
		for side := range len(s) {
			if otherSide(s, side) > side && strings.Count(s, s[side:side+1]) == 2 {
				s = inOtherForm(s, side)
				if impl.WordSided(s) != wordSided(s) {
					t.Errorf("WordSided(%q) = %v", s, impl.WordSided(s))
				}
			}
		}
		if !impl.WordSided(s) {
			t.Errorf("WordSided does not hold for %q", s)
		}
	}
	if sided < 200 || others < 200 {
		t.Errorf("just %d words here have two sides and %d have not", sided, others)
	}
}

// Promise 88: classes.
func TestPromise88Class(t *testing.T) {
	many := map[string]int{}
	for _, s := range sampleWords() {
		class := impl.WordClass(s)
		sameText(t, "WordClass of "+s, class, wordClass(s))
		if (class[0] == 'S') != impl.WordSided(s) {
			t.Errorf("WordClass(%q) = %q", s, class)
		}
		many[class]++
		sameText(t, "WordClass of WordNormal of "+s, impl.WordClass(text(t)(impl.WordNormal(s))), class)
		sameText(t, "WordClass of WordTurn of "+s, impl.WordClass(text(t)(impl.WordTurn(s))), class)
		sameText(t, "WordClass of WordBack of "+s, impl.WordClass(text(t)(impl.WordBack(s))), class)
	}
	for _, class := range []string{"S0", "S1", "S2", "P1", "P2", "P3", "P4", "P5"} {
		if many[class] < 20 {
			t.Errorf("just %d words here are of the class %s", many[class], class)
		}
	}
	if len(many) != 8 {
		t.Errorf("so many words are of each class: %v", many)
	}
}

// Promise 89: normal words.
func TestPromise89Normal(t *testing.T) {
	for _, s := range sampleWords() {
		normal := text(t)(impl.WordNormal(s))
		sameText(t, "WordNormal of "+s, normal, normalOf(wordClass(s)))
		sameText(t, "WordNormal of "+normal, text(t)(impl.WordNormal(normal)), normal)
		if !impl.WordSame(normal, s) || len(normal) > len(s) {
			t.Errorf("WordNormal(%q) = %q", s, normal)
		}
		corners := impl.WordCorners(normal)
		if normal == "aA" && corners != 2 || normal != "aA" && corners != 1 {
			t.Errorf("%q has %d corners", normal, corners)
		}
	}
}

// Promise 90: turning.
func TestPromise90Turn(t *testing.T) {
	for _, s := range sampleWords() {
		turned := s
		for i := range len(s) {
			turned = text(t)(impl.WordTurn(turned))
			sameText(t, "WordTurn", turned, s[i+1:]+s[:i+1])
			if !impl.WordSame(turned, s) {
				t.Errorf("%q and %q are not of one class", turned, s)
			}
		}
		sameText(t, "as many turns as sides", turned, s)
	}
}

// Promise 91: the opposite order.
func TestPromise91Back(t *testing.T) {
	for _, s := range sampleWords() {
		back := text(t)(impl.WordBack(s))
		sameText(t, "WordBack of "+s, back, wordBack(s))
		sameText(t, "WordBack of WordBack", text(t)(impl.WordBack(back)), s)
		if !impl.WordSame(back, s) {
			t.Errorf("%q and %q are not of one class", back, s)
		}
		last := len(back) - 1
		sameText(t, "WordBack of WordTurn of "+s, text(t)(impl.WordBack(text(t)(impl.WordTurn(s)))), back[last:]+back[:last])
	}
}

// Promise 92: names.
func TestPromise92Names(t *testing.T) {
	for _, s := range sampleWords() {
		names := text(t)(impl.WordNames(s))
		sameText(t, "WordNames of "+s, names, wordNames(s, 'a'))
		sameText(t, "WordNames of WordNames", text(t)(impl.WordNames(names)), names)
		if names[0] != 'a' || !impl.WordSame(names, s) {
			t.Errorf("WordNames(%q) = %q", s, names)
		}
		for i := range 5 {
			times := strings.Count(strings.ToLower(names), string(rune('a'+i)))
			if i < len(s)/2 && times != 2 || i >= len(s)/2 && times != 0 {
				t.Errorf("WordNames(%q) = %q has the letter %d %d times", s, names, i, times)
			}
		}
	}
	for n := 1; n <= 3; n++ {
		for i, s := range plainWords(n) {
			sameText(t, "WordNames of a word with other names", text(t)(impl.WordNames(disguised(s, i))), s)
		}
	}
}

// eachJoin calls do with each two words that can be joined.
func eachJoin(do func(a, b string)) {
	words := fewWords()
	for _, a := range words {
		for _, b := range words {
			if len(a)+len(b) <= 10 {
				do(a, b)
			}
		}
	}
}

// Promise 93: two words joined.
func TestPromise93Join(t *testing.T) {
	full, mixed := 0, 0
	eachJoin(func(a, b string) {
		s := text(t)(impl.WordJoin(a, b))
		sameText(t, "WordJoin of "+a+" and "+b, s, wordNames(a, 'a')+wordNames(b, rune('a'+len(a)/2)))
		if number := impl.WordNumber(s); number != impl.WordNumber(a)+impl.WordNumber(b)-2 {
			t.Errorf("WordNumber(%q) = %d", s, number)
		}
		if impl.WordSided(s) != (impl.WordSided(a) && impl.WordSided(b)) {
			t.Errorf("WordSided(%q) = %v", s, impl.WordSided(s))
		}
		exchanged := text(t)(impl.WordJoin(b, a))
		if !impl.WordSame(s, exchanged) || wordClass(s) != wordClass(exchanged) {
			t.Errorf("%q and %q are not of one class", s, exchanged)
		}
		if len(s) == 10 {
			full++
		}
		if wordSided(a) != wordSided(b) {
			mixed++
		}
	})
	if full < 100 || mixed < 100 {
		t.Errorf("just %d joins here have LettersMax letters, and %d one word with two sides", full, mixed)
	}
}

// Promise 94: normal words joined.
func TestPromise94JoinNormal(t *testing.T) {
	eachJoin(func(a, b string) {
		s := text(t)(impl.WordJoin(a, b))
		normal := text(t)(impl.WordJoin(text(t)(impl.WordNormal(a)), text(t)(impl.WordNormal(b))))
		sameText(t, "WordClass of the join of "+a+" and "+b, impl.WordClass(s), impl.WordClass(normal))
	})
	for _, s := range sampleWords() {
		if len(s) > 8 {
			continue
		}
		sameText(t, "WordClass of "+s+" and aA", impl.WordClass(text(t)(impl.WordJoin(s, "aA"))), impl.WordClass(s))
		sameText(t, "WordClass of aA and "+s, impl.WordClass(text(t)(impl.WordJoin("aA", s))), impl.WordClass(s))
	}
}

// Promise 95: cutting and gluing.
func TestPromise95Cut(t *testing.T) {
	for _, s := range sampleWords() {
		class, corners := wordClass(s), wordCorners(s)
		eachCut(s, func(i, k, m int) {
			got := text(t)(impl.WordCut(s, i, k))
			sameText(t, "WordCut of "+s, got, wordCut(s, i, k))
			if len(got) != len(s) || !isWord(got) || !impl.WordValid(got) {
				t.Fatalf("WordCut(%q, %d, %d) = %q", s, i, k, got)
			}
			if !impl.WordSame(got, s) || wordClass(got) != class {
				t.Errorf("WordCut(%q, %d, %d) = %q is of another class", s, i, k, got)
			}
			if impl.WordCorners(got) != corners || wordCorners(got) != corners {
				t.Errorf("WordCut(%q, %d, %d) = %q has other corners", s, i, k, got)
			}
		})
	}
}

// TestEnoughCuts counts what cuts there are among those of promise 95.
func TestEnoughCuts(t *testing.T) {
	many := map[string]int{}
	note := func(name string, holds bool) {
		if holds {
			many[name]++
		} else {
			many["not: "+name]++
		}
	}
	for _, s := range sampleWords() {
		eachCut(s, func(i, k, m int) {
			note("A is empty", k == 0)
			note("B is empty", i == k+1)
			note("C is empty", m == i)
			note("D is empty", m == len(s)-1)
			note("all are empty", len(s) == 2)
			note("the first cut", i == 1)
			note("the last cut", i == len(s)-1)
			note("one direction", s[k] == s[m])
			note("large at both sides", s[k] < 'a' && s[m] < 'a')
			note("large at the first side", s[k] < 'a' && s[m] >= 'a')
			note("large at the second side", s[k] >= 'a' && s[m] < 'a')
			note("the other letters at all places", 0 < k && k+1 < i && i < m && m < len(s)-1)
		})
	}
	for name, times := range many {
		if times < 20 {
			t.Errorf("just %d cuts here have %s", times, name)
		}
	}
	if len(many) != 24 {
		t.Errorf("the cuts here have %v", many)
	}
}

// Promise 96: words of one class.
func TestPromise96Same(t *testing.T) {
	words := fewWords()
	same := 0
	for _, a := range words {
		for _, b := range words {
			got := impl.WordSame(a, b)
			if got != (wordClass(a) == wordClass(b)) || impl.WordSame(b, a) != got {
				t.Errorf("WordSame(%q, %q) = %v", a, b, got)
			}
			if (text(t)(impl.WordNormal(a)) == text(t)(impl.WordNormal(b))) != got {
				t.Errorf("WordSame(%q, %q) = %v, but not by the normal words", a, b, got)
			}
			if !got {
				continue
			}
			same++
			for _, third := range []string{"aA", "ee", "DcdC", "abaB", "abcABC", "aabbCC"} {
				if max(len(a), len(b))+len(third) > 10 {
					continue
				}
				if !impl.WordSame(text(t)(impl.WordJoin(a, third)), text(t)(impl.WordJoin(b, third))) {
					t.Errorf("WordSame holds for %q and %q, but not joined with %q", a, b, third)
				}
			}
		}
	}
	if same < 1000 {
		t.Errorf("just %d pairs here are of one class", same)
	}
}

// Promise 97: gluings of words.
func TestPromise97Gluing(t *testing.T) {
	list := must[[]int](t)
	for _, s := range sampleWords() {
		if !wordSided(s) {
			continue
		}
		p := list(impl.WordGluing(s))
		if !impl.GluingValid(p) || impl.GluingCorners(p) != impl.WordCorners(s) {
			t.Errorf("WordGluing(%q) = %v", s, p)
		}
		for side, partner := range p {
			if partner != otherSide(s, side) {
				t.Errorf("WordGluing(%q) = %v", s, p)
			}
		}
		turned := list(impl.WordGluing(text(t)(impl.WordTurn(s))))
		sameList(t, "GluingTurn of the gluing of WordTurn", list(impl.GluingTurn(turned)), p)
	}
}
