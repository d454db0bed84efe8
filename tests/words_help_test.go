package tests

import (
	"slices"
	"strconv"
	"strings"
	"testing"
	"unicode"
)

// knownWord is a word with what was worked out for it by hand.
type knownWord struct {
	s       string
	corners int
	class   string
	normal  string
	turned  string
	back    string
	names   string
}

// knownWords has words of one letter in all forms, of all classes there are, with one corner and
// with as many as there may be, and with letters that are not the first ones.
func knownWords() []knownWord {
	return []knownWord{
		{"aA", 2, "S0", "aA", "Aa", "aA", "aA"},
		{"Aa", 2, "S0", "aA", "aA", "Aa", "aA"},
		{"aa", 1, "P1", "aa", "aa", "AA", "aa"},
		{"AA", 1, "P1", "aa", "AA", "aa", "aa"},
		{"cC", 2, "S0", "aA", "Cc", "cC", "aA"},
		{"eE", 2, "S0", "aA", "Ee", "eE", "aA"},
		{"Ee", 2, "S0", "aA", "eE", "Ee", "aA"},
		{"EE", 1, "P1", "aa", "EE", "ee", "aa"},
		{"dd", 1, "P1", "aa", "dd", "DD", "aa"},
		{"abAB", 1, "S1", "abAB", "bABa", "baBA", "abAB"},
		{"abBA", 3, "S0", "aA", "bBAa", "abBA", "abBA"},
		{"aAbB", 3, "S0", "aA", "AbBa", "bBaA", "aAbB"},
		{"aabb", 1, "P2", "aabb", "abba", "BBAA", "aabb"},
		{"abba", 1, "P2", "aabb", "bbaa", "ABBA", "abba"},
		{"abab", 2, "P1", "aa", "baba", "BABA", "abab"},
		{"BABA", 2, "P1", "aa", "ABAB", "abab", "abab"},
		{"abaB", 1, "P2", "aabb", "baBa", "bABA", "abaB"},
		{"abBa", 2, "P1", "aa", "bBaa", "AbBA", "abBa"},
		{"DcdC", 1, "S1", "abAB", "cdCD", "cDCd", "abAB"},
		{"cEce", 1, "P2", "aabb", "Ecec", "ECeC", "abaB"},
		{"abcABC", 2, "S1", "abAB", "bcABCa", "cbaCBA", "abcABC"},
		{"abcabc", 3, "P1", "aa", "bcabca", "CBACBA", "abcabc"},
		{"aabbcc", 1, "P3", "aabbcc", "abbcca", "CCBBAA", "aabbcc"},
		{"abABcc", 1, "P3", "aabbcc", "bABcca", "CCbaBA", "abABcc"},
		{"ecbCBE", 2, "S1", "abAB", "cbCBEe", "ebcBCE", "abcBCA"},
		{"abABcdCD", 1, "S2", "abABcdCD", "bABcdCDa", "dcDCbaBA", "abABcdCD"},
		{"abcdABCD", 1, "S2", "abABcdCD", "bcdABCDa", "dcbaDCBA", "abcdABCD"},
		{"aabbccdd", 1, "P4", "aabbccdd", "abbccdda", "DDCCBBAA", "aabbccdd"},
		{"aabbccddee", 1, "P5", "aabbccddee", "abbccddeea", "EEDDCCBBAA", "aabbccddee"},
		{"abABcdCDee", 1, "P5", "aabbccddee", "bABcdCDeea", "EEdcDCbaBA", "abABcdCDee"},
		{"abABcdCDEe", 2, "S2", "abABcdCD", "bABcdCDEea", "EedcDCbaBA", "abABcdCDeE"},
		{"abcdeABCDE", 2, "S2", "abABcdCD", "bcdeABCDEa", "edcbaEDCBA", "abcdeABCDE"},
		{"aabbcCdDeE", 4, "P2", "aabb", "abbcCdDeEa", "eEdDcCBBAA", "aabbcCdDeE"},
		{"aabBcCdDeE", 5, "P1", "aa", "abBcCdDeEa", "eEdDcCbBAA", "aabBcCdDeE"},
		{"abcdeabcde", 5, "P1", "aa", "bcdeabcdea", "EDCBAEDCBA", "abcdeabcde"},
		{"edcbaABCDE", 6, "S0", "aA", "dcbaABCDEe", "edcbaABCDE", "abcdeEDCBA"},
		{"aAbBcCdDeE", 6, "S0", "aA", "AbBcCdDeEa", "eEdDcCbBaA", "aAbBcCdDeE"},
	}
}

// plainWords returns all words of n letters that are named in order: each gluing of as many pairs
// of sides, and the second side of each letter small or large.
func plainWords(n int) []string {
	var out []string
	for _, p := range allGluings(n) {
		for smalls := range 1 << n {
			s := make([]byte, 2*n)
			next := byte('a')
			for i, x := range p {
				if i > x {
					continue
				}
				s[i], s[x] = next, next-'a'+'A'
				if smalls>>(next-'a')&1 == 1 {
					s[x] = next
				}
				next++
			}
			out = append(out, string(s))
		}
	}
	return out
}

// disguised renames the letters of a word in one of several ways, so that others than the first
// ones of the alphabet are there, and large ones stand first.
func disguised(s string, way int) string {
	ways := []string{"edcba", "BcAeD", "CDEab", "eAdBc", "cEbDa", "ABCDE", "bcdea"}
	names := ways[way%len(ways)]
	return strings.Map(func(r rune) rune {
		if unicode.IsUpper(r) {
			return otherForm(rune(names[r-'A']))
		}
		return rune(names[r-'a'])
	}, s)
}

// someWords returns every few words of n letters, plain and disguised in turn.
func someWords(n, every int) []string {
	var out []string
	for i, s := range plainWords(n) {
		if i%every != 0 {
			continue
		}
		out = append(out, s, disguised(s, i/every))
	}
	return out
}

// oneLetterWords returns all words of one letter.
func oneLetterWords() []string {
	var out []string
	for _, small := range []string{"a", "b", "c", "d", "e"} {
		large := strings.ToUpper(small)
		out = append(out, small+small, small+large, large+small, large+large)
	}
	return out
}

// sampleWords returns all words of one letter, all plain words of up to 4 letters, each disguised,
// too, a part of those of 5 letters, and the known ones.
func sampleWords() []string {
	out := oneLetterWords()
	for n := 1; n <= 4; n++ {
		out = append(out, someWords(n, 1)...)
	}
	out = append(out, someWords(5, 13)...)
	for _, k := range knownWords() {
		out = append(out, k.s)
	}
	return out
}

// fewWords returns words of 1 to 5 letters, few enough to take each two of them.
func fewWords() []string {
	out := oneLetterWords()
	out = append(out, someWords(2, 1)...)
	out = append(out, someWords(3, 5)...)
	out = append(out, someWords(4, 71)...)
	return append(out, someWords(5, 1511)...)
}

func otherForm(r rune) rune {
	if unicode.IsUpper(r) {
		return unicode.ToLower(r)
	}
	return unicode.ToUpper(r)
}

// isWord tells by the definition whether a text is a word.
func isWord(s string) bool {
	letters := 0
	for _, small := range []string{"a", "b", "c", "d", "e"} {
		times := strings.Count(s, small) + strings.Count(s, strings.ToUpper(small))
		if times != 0 && times != 2 {
			return false
		}
		letters += times
	}
	return letters > 0 && letters == len(s)
}

// otherSide returns the other side of the letter of a side.
func otherSide(s string, i int) int {
	for m := range len(s) {
		if m != i && strings.EqualFold(s[m:m+1], s[i:i+1]) {
			return m
		}
	}
	return -1
}

// wordCorners counts the ends of sides as the definition makes them one.
func wordCorners(s string) int {
	var pairs [][2]int
	for i := range len(s) {
		m := otherSide(s, i)
		begin, end := 2*m, 2*m+1
		if s[i] != s[m] {
			begin, end = end, begin
		}
		pairs = append(pairs, [2]int{2 * i, begin}, [2]int{2*i + 1, end}, [2]int{2*i + 1, 2 * ((i + 1) % len(s))})
	}
	return groups(2*len(s), pairs)
}

// wordSided tells whether each letter is there small and large.
func wordSided(s string) bool {
	for i := range len(s) {
		if strings.Count(s, s[i:i+1]) != 1 {
			return false
		}
	}
	return true
}

// wordClass tells the class without corners: it takes letters away from the word, one by one where
// both sides have one direction, and then two by two where they cross, until there is a sphere.
func wordClass(s string) string {
	alone, crossing := 0, 0
	for at := 0; at < len(s); at++ {
		if m := otherSide(s, at); m > at && s[m] == s[at] {
			s = s[:at] + wordBack(s[at+1:m]) + s[m+1:]
			alone++
			at = -1
		}
	}
	for at := 0; at < len(s); at++ {
		m := otherSide(s, at)
		for j := at + 1; j < m; j++ {
			if n := otherSide(s, j); n > m {
				s = s[:at] + s[m+1:n] + s[j+1:m] + s[at+1:j] + s[n+1:]
				crossing++
				at = -1
				break
			}
		}
	}
	if alone > 0 {
		return "P" + strconv.Itoa(alone+2*crossing)
	}
	return "S" + strconv.Itoa(crossing)
}

// normalOf has the normal words of all classes there are.
func normalOf(class string) string {
	return map[string]string{
		"S0": "aA", "S1": "abAB", "S2": "abABcdCD",
		"P1": "aa", "P2": "aabb", "P3": "aabbcc", "P4": "aabbccdd", "P5": "aabbccddee",
	}[class]
}

func wordBack(s string) string {
	letters := []rune(strings.Map(otherForm, s))
	slices.Reverse(letters)
	return string(letters)
}

// wordNames names the letters of a word from a letter on, by a list of what is called how.
func wordNames(s string, next rune) string {
	names := map[rune]rune{}
	return strings.Map(func(r rune) rune {
		if _, named := names[r]; !named {
			names[r], names[otherForm(r)] = next, unicode.ToUpper(next)
			next++
		}
		return names[r]
	}, s)
}

// wordCut cuts and glues polygons: both have the cut as a side, "x", each is gone round from
// behind the letter along which they are glued, and the second one in the direction that it needs.
func wordCut(s string, i, k int) string {
	glued := s[k]
	first, second := s[:i]+"x", "X"+s[i:]
	if s[otherSide(s, k)] == glued {
		second = wordBack(second)
	}
	behind := func(polygon string, c byte) string {
		at := strings.IndexByte(polygon, c)
		return polygon[at+1:] + polygon[:at]
	}
	out := behind(first, glued) + behind(second, byte(otherForm(rune(glued))))
	small := strings.ToLower(string(glued))
	return strings.NewReplacer("x", small, "X", strings.ToUpper(small)).Replace(out)
}

// eachCut calls do with all places for which a word can be cut, and m, the other side of k.
func eachCut(s string, do func(i, k, m int)) {
	for i := 1; i < len(s); i++ {
		for k := range i {
			if m := otherSide(s, k); m >= i {
				do(i, k, m)
			}
		}
	}
}

// notWords returns texts that are no words.
func notWords() []string {
	return []string{
		// No letters, one letter, odd lengths.
		"", "a", "A", "e", "E", "aaa", "aAa", "AAA", "aAb", "abA", "aabbc", "aAbBc", "abABa",
		"aabbccd", "abcabca", "aabbccdde", "abcdeABCD", "aAbBcCdDeEe", "abcdeABCDEa",
		// Letters that are there once, three times or four times.
		"ab", "aB", "Ab", "AB", "eD", "abcd", "abac", "aabc", "abca", "aaab", "aAab", "aaabbb", "aAaBbB",
		"aaaa", "aAaA", "AAAA", "aaAA", "ccCC", "aaaabb", "abcdef", "abcdeabcda", "abcdeABCDA", "aabbccaa",
		"aabbccddaa", "aaaaaaaaaa", "aAaAaAaAaA",
		// Letters behind e and E, and bytes beside the letters.
		"ff", "fF", "Ff", "FF", "aAfF", "fFaA", "zZ", "zz", "gG", "abABff", "aabbccddff", "``", "@@", "`@", "aA`@", "[[", "{{", "~~",
		// Digits, spaces and others.
		"11", "1a1a", "12", "00", "aA11", "1111", "  ", "    ", " aA", "aA ", "a A", "a a ", " a a", "aA\n", "\naA", "\n\n", "\t\t", "\x00\x00", "aA\x00\x00",
		"()", "--", "a-a-", "a,a", "!!", "\x01\x01", "##", "aA##", "\x7f\x7f",
		// Bytes that are not of ASCII, and letters of more than one byte.
		"\xc1\xc1", "\xe1\xe1", "\xc1\xe1", "\x81\x81", "\xa1\xa1", "a\xe1", "aA\xff\xff", "\x80\x80", "ää", "äÄ", "é", "éé", "aéa", "aéé", "аА", "ａａ", "ＡＡ", "aA\u0301", "ßß", "a\u200ba",
		// Too long.
		"aAbBcCdDeEaA", "aabbccddeeff", "abcdefABCDEF", "aAbBcCdDeEfF", "aabbccddeeaabb", "aAbBcCdDeE  ", "aAbBcCdDeE\n",
		strings.Repeat("a", 1000), strings.Repeat("aA", 1000), strings.Repeat("abcdeABCDE", 2), strings.Repeat("aAbBcCdDeE", 100),
	}
}

// text gives the text of a call that has to succeed.
func text(t *testing.T) func(s string, ok bool) string {
	return must[string](t)
}

// failsText reports an error unless a call failed with an empty text.
func failsText(t *testing.T, what string) func(s string, ok bool) {
	return func(s string, ok bool) {
		t.Helper()
		if ok || s != "" {
			t.Errorf("%s returned %q, %v", what, s, ok)
		}
	}
}

// sameText reports an error if two texts differ.
func sameText(t *testing.T, what, got, want string) {
	t.Helper()
	if got != want {
		t.Errorf("%s: %q instead of %q", what, got, want)
	}
}
