package tests

import (
	"slices"
	"strconv"
	"strings"
	"testing"

	"loop.example/surfacemaps/impl"
)

// sampleLines returns a line of each command as it succeeds for many maps.
func sampleLines() []string {
	return []string{"map 4 (0,1,2,3) (0,2)(1,3)", "dual", "mirror", "least", "form 1", "delete 0", "contract 0", "tutte", "tree (())", "show", "counts", "value 1 2 3", "count 3 1", "glue 4 1", "class abAB"}
}

// tooLong is the whole output of a script with more than MaxScript bytes.
const tooLong = "too long"

// TestScriptSize asks for scripts of MaxScript bytes and of one byte more, of complete lines, with
// a last one that is not complete, and with no newline at all.
func TestScriptSize(t *testing.T) {
	if impl.MaxScript != 500 {
		t.Errorf("MaxScript is %d", impl.MaxScript)
	}
	// Each of the 100 lines has five bytes.
	shows := slices.Repeat([]string{"show"}, 100)
	want := append(slices.Repeat([]string{"(0,1) (0,1)"}, 100), "darts 2")
	answers(t, allLines(shows...), want...)
	answers(t, allLines(shows...)+"\n", tooLong)
	answers(t, allLines(shows...)+"x", tooLong)
	answers(t, allLines(shows[1:]...)+"shows", want[1:]...)
	answers(t, allLines(shows[1:]...)+"showss", tooLong)
	answers(t, strings.Repeat("x", 500), "darts 2")
	answers(t, strings.Repeat("x", 501), tooLong)
	answers(t, strings.Repeat("x", 499)+"\n", "what", "darts 2")
	answers(t, strings.Repeat("x", 500)+"\n", tooLong)
	answers(t, strings.Repeat("\n", 500), append(slices.Repeat([]string{"what"}, 500), "darts 2")...)
	answers(t, strings.Repeat("\n", 501), tooLong)
	answers(t, strings.Repeat(" ", 499)+"\n", "what", "darts 2")
	// The length is that in bytes.
	answers(t, strings.Repeat("é", 250), "darts 2")
	answers(t, strings.Repeat("é", 251), tooLong)
	answers(t, strings.Repeat("é", 300), tooLong)
	for _, size := range []int{502, 1000, 1 << 16, 1 << 20} {
		answers(t, strings.Repeat("show\n", size/5+1), tooLong)
		answers(t, strings.Repeat("x", size), tooLong)
	}
	// Words as long as there may be.
	for _, word := range []string{"tree ", "class ", "form ", "map 2 () ", "map 2 ", "count ", "value 1 1 "} {
		for _, letter := range []string{"(", "a", "0", "()", ")(", "1"} {
			asDocument(t, word+strings.Repeat(letter, (499-len(word))/len(letter))+"\n")
		}
	}
}

// TestLastLine leaves the newline out of the last line: alone, and behind complete lines.
func TestLastLine(t *testing.T) {
	for _, line := range sampleLines() {
		answers(t, line, "darts 2")
		answers(t, "show\n"+line, "(0,1) (0,1)", "darts 2")
		answers(t, "tree ()\nzzz\n"+line, "ok", "what", "darts 4")
		answers(t, "\n"+line, "what", "darts 2")
	}
}

// TestSpaces puts spaces ahead of lines, behind them, and twice between words. Another byte behind
// a line is a part of its last word.
func TestSpaces(t *testing.T) {
	for _, line := range sampleLines() {
		for _, other := range []string{" " + line, "  " + line, line + " ", line + "  ", " " + line + " ", "\t" + line} {
			answers(t, other+"\nshow\n", "what", "(0,1) (0,1)", "darts 2")
		}
		want := "what"
		if strings.Contains(line, " ") {
			want = "no"
			answers(t, strings.ReplaceAll(line, " ", "  ")+"\nshow\n", "what", "(0,1) (0,1)", "darts 2")
			answers(t, strings.ReplaceAll(line, " ", "\t")+"\nshow\n", "what", "(0,1) (0,1)", "darts 2")
		}
		for _, other := range []string{"\t", "\r", "\x00", "\v", "\u00a0"} {
			answers(t, line+other+"\nshow\n", want, "(0,1) (0,1)", "darts 2")
		}
	}
	for _, line := range []string{"", " ", "  ", "   ", "\t", "\r", "\v", "\f", "\u2028", "\ufeff", "\ufeffshow"} {
		answers(t, line+"\nshow\n", "what", "(0,1) (0,1)", "darts 2")
	}
}

// TestManyWords takes words from each command and adds some, so that there are as few and as many as
// there should not be.
func TestManyWords(t *testing.T) {
	asked := 0
	for _, line := range sampleLines() {
		w := strings.Split(line, " ")
		for n := 1; n < len(w); n++ {
			asked++
			answers(t, strings.Join(w[:n], " ")+"\nshow\n", "what", "(0,1) (0,1)", "darts 2")
			answers(t, strings.Join(slices.Delete(slices.Clone(w), n, n+1), " ")+"\nshow\n", "what", "(0,1) (0,1)", "darts 2")
		}
		for _, more := range []string{"", "0", "1", "x", "()", "show", w[0], "0 0", " ", "0 0 0", "1 2 3 4 5 6"} {
			answers(t, line+" "+more+"\nshow\n", "what", "(0,1) (0,1)", "darts 2")
		}
		// Without its first word, and with another word in its place.
		rest := strings.Join(w[1:], " ")
		for _, first := range []string{"", "x", w[0] + "s", w[0][1:], w[0][:len(w[0])-1], strings.ToUpper(w[0]), strings.ToUpper(w[0][:1]) + w[0][1:], w[0] + "\x00", "\xff" + w[0], w[0] + "é"} {
			if slices.Contains([]string{"count", "counts"}, first) {
				continue
			}
			answers(t, strings.TrimSuffix(first+" "+rest, " ")+"\nshow\n", "what", "(0,1) (0,1)", "darts 2")
			answers(t, first+" "+rest+"\nshow\n", "what", "(0,1) (0,1)", "darts 2")
		}
	}
	if asked != 15 {
		t.Errorf("%d words were taken away", asked)
	}
	answers(t, "counts 3 1\ncount\nclas aA\nmap\nform\nvalue 1 2\ncount 1\ntree\n", "what", "what", "what", "what", "what", "what", "what", "what", "darts 2")
}

// numberWords returns words of up to three bytes, digits and others, and longer ones.
func numberWords() []string {
	out := wordsOf("0129-+.x\x00", 3)
	out = append(out, "007", "0x1", "0b1", "1e0", "1_0", "0001", "1.0", "-01", "+01", "00000000000000000001", "99999999999999999999", "4294967296", "18446744073709551616")
	out = append(out, "/", ":", "0/", "0:", "/0", ":0", "１", "²", "٣", "0\u0661", "\xff", "0\xff", "\xff0", "é", "\xb1", "0\xb1", "\xb10")
	for n := range 100 {
		out = append(out, strconv.Itoa(n), "0"+strconv.Itoa(n))
	}
	return out
}

// TestNumberWords asks each command that takes numbers for words of all kinds, at each place. All forms of
// the map are different.
func TestNumberWords(t *testing.T) {
	rows := mapLine(mapOf(12, "(0,2,6)(3,4)(7,8)(9,10)", edges6))
	theta := mapLine(theta())
	loops := mapLine(mapOf(12, "(0,1,2,3,4,5,6,7,8,9,10,11)", edges6))
	told := map[string]bool{}
	for _, word := range numberWords() {
		for _, line := range []string{"form " + word, "contract " + word, "delete " + word} {
			asDocument(t, allLines(rows, line, "show"))
			asDocument(t, allLines(loops, line, "show"))
		}
		for _, line := range []string{"value # 2 1", "value 1 # 2", "value 3 2 #", "count # 0", "count 9 #", "count # #", "glue # 0", "glue 9 #", "glue # #", "map # (0,1) (0,1)", "map # () (0,1)"} {
			script := allLines(theta, strings.ReplaceAll(line, "#", word))
			asDocument(t, script)
			told[impl.Execute(script)] = true
		}
		if n := numberOf(word); n < 0 {
			answers(t, allLines(rows, "form "+word), "ok", "no", "darts 12")
		}
	}
	if len(told) < 30 {
		t.Errorf("just %d different outputs are told", len(told))
	}
}

// TestNumberRanges asks for the numbers at both ends of their ranges, and for those beyond.
func TestNumberRanges(t *testing.T) {
	for _, k := range knownMaps() {
		n := len(k.m.Turn)
		for _, name := range []string{"form", "delete", "contract"} {
			for _, x := range []int{0, 1, n/2 - 1, n / 2, n - 1, n, n + 1, 99} {
				asDocument(t, allLines(mapLine(k.m), name+" "+strconv.Itoa(x), "show", "counts"))
			}
		}
		answers(t, allLines(mapLine(k.m), "form "+strconv.Itoa(n-1)), "ok", "ok", lastLine(n))
		answers(t, allLines(mapLine(k.m), "form "+strconv.Itoa(n)), "ok", "no", lastLine(n))
		answers(t, allLines(mapLine(k.m), "delete "+strconv.Itoa(n/2), "contract "+strconv.Itoa(n/2), "show"), "ok", "no", "no", showOf(k.m), lastLine(n))
		for place := range 3 {
			for x := range 6 {
				at := []string{"1", "1", "1"}
				at[place] = strconv.Itoa(x)
				asDocument(t, allLines(mapLine(k.m), "value "+strings.Join(at, " ")))
			}
		}
	}
}

// TestNoMapLine asks for maps whose texts are no permutations, whose lists are no maps, or with a
// number of darts for which there is none.
func TestNoMapLine(t *testing.T) {
	cross := mapLine(mapOf(4, "(0,1,2,3)", "(0,2)(1,3)"))
	tried := 0
	refused := func(line string) {
		t.Helper()
		tried++
		answers(t, allLines(cross, line, "show"), "ok", "no", "(0,1,2,3) (0,2)(1,3)", "darts 4")
	}
	for _, texts := range []string{
		"(1,0) (0,1)", "(0,1) (1,0)", "(0,2) (0,1)", "(0,1) (0,2)", "(0,1)() (0,1)", "(0)(1) (0,1)", "(0,1) (0,1)(0,1)", "0,1 (0,1)", "(0,1) 0,1", "(0,1 (0,1)", "(0,1) 0,1)",
		"(0,-1) (0,1)", "(0,01) (0,1)", "(0,+1) (0,1)", "[0,1] (0,1)", "(0;1) (0,1)", "(0,1) x", "x (0,1)", " (0,1)", "(0,1) ", " ", "(0,1) (0,\xff)", "(0,1) (0,é)",
		"(0,1) ()", "() ()", "(0,1)\t (0,1)", "(0,1)\x00 (0,1)", "(0,0) (0,1)", "(0,1) (0,0)",
	} {
		refused("map 2 " + texts)
	}
	for _, line := range []string{
		// Lists that are no map: a dart that stays, a Flip that does not lead back, parts apart.
		"map 4 (0,1,2,3) (0,1)", "map 4 (0,1,2,3) (0,1,2,3)", "map 4 (0,1) (0,1)(2,3)", "map 4 () (0,1)(2,3)", "map 6 (0,1,2)(3,4,5) (0,1,2)(3,4,5)", "map 6 (0,1,2,3) (0,1)(2,3)(4,5)",
		// Odd numbers of darts, 0, and more than PointsMax.
		"map 1 () ()", "map 3 (0,1,2) (0,1)", "map 3 () ()", "map 5 (0,1,2,3,4) (0,1)(2,3)", "map 11 (0,1,2,3,4,5,6,7,8,9,10) (0,1)(2,3)(4,5)(6,7)(8,9)",
		"map 0 () ()", "map 00 () ()", "map 13 (0,1) (0,1)", "map 14 (1,2)(3,4)(5,6)(7,8)(9,10)(11,12) " + edges6 + "(12,13)", "map 99 () (0,1)", "map 16 () ()",
		"map -2 (0,1) (0,1)", "map +2 (0,1) (0,1)", "map 002 (0,1) (0,1)", "map 2. (0,1) (0,1)", "map two (0,1) (0,1)", "map  (0,1) (0,1)", "map x (0,1) (0,1)",
		// Texts of another number of darts.
		"map 2 (0,1,2,3) (0,2)(1,3)", "map 4 (0,1) (0,1)", "map 12 (0,1) (0,1)",
	} {
		refused(line)
	}
	for _, m := range notMaps() {
		if isPerm(m.Turn) && isPerm(m.Flip) && len(m.Turn) == len(m.Flip) {
			refused(mapLine(m))
		}
	}
	if tried < 70 {
		t.Errorf("just %d maps are refused", tried)
	}
}

// TestOtherBytes puts each byte into lines: in place of each byte, and between each two of them.
func TestOtherBytes(t *testing.T) {
	for b := range 256 {
		for _, line := range []string{"show", "form 1", "class aA", "tree ()", "value 1 2 3", "map 2 () (0,1)"} {
			for at := range len(line) + 1 {
				asDocument(t, line[:at]+string([]byte{byte(b)})+line[at:]+"\nshow\n")
				if at < len(line) {
					asDocument(t, line[:at]+string([]byte{byte(b)})+line[at+1:]+"\nshow\n")
				}
			}
		}
	}
	// Bytes that are not of ASCII are no less a part of lines, and of the limit.
	for _, word := range []string{"é", "\xff", "\xc3", "\u2003", "日本", "\U0001f600", "\xe2\x82"} {
		for _, line := range []string{word, "show" + word, word + "show", "show " + word} {
			answers(t, line+"\n", "what", "darts 2")
		}
		for _, line := range []string{"form " + word, "tree " + word, "class " + word, "class aA" + word, "delete " + word, "count 1 " + word, "glue " + word + " 1", "value 1 1 " + word, "map 2 " + word + " (0,1)", "map " + word + " () (0,1)"} {
			answers(t, line+"\nshow\n", "no", "(0,1) (0,1)", "darts 2")
		}
	}
}

// otherScripts returns scripts of two or three lines out of many, and the known ones.
func otherScripts() []string {
	lines := append(sampleLines(), "map 2 () (0,1)", "map 6 (0,2,4)(1,3,5) (0,1)(2,3)(4,5)", "map 3 () ()", "form 3", "form 9", "delete 1", "contract 1", "contract 9", "tree ()()()", "tree )(", "value 4 1 1", "count 10 0", "class x", "zzz", "", "show ")
	var out []string
	for i, a := range lines {
		for k, b := range lines {
			out = append(out, allLines(a, b, "show"), allLines(a, b)+"show")
			for l := (i + k) % 3; l < len(lines); l += 3 {
				out = append(out, allLines(a, b, lines[l], "show", "counts"))
			}
		}
	}
	return append(out, completeScripts()...)
}

// TestOtherScripts holds Execute against the document for lines one after the other: each line works
// on the map of those ahead of it.
func TestOtherScripts(t *testing.T) {
	for _, script := range otherScripts() {
		asDocument(t, script)
	}
}

// TestFailChangesNothing asks for each known map what fails and what is no command: the map is shown
// as it was, and so it is without these lines.
func TestFailChangesNothing(t *testing.T) {
	for _, k := range knownMaps() {
		n := len(k.m.Turn)
		lines := []string{"map 3 () ()", "map 4 (0,1) (0,1)(2,3)", "map 2 (0,1) (0,2)", "map 14 () ()", "form " + strconv.Itoa(n), "form x", "delete " + strconv.Itoa(n/2), "contract " + strconv.Itoa(n/2), "tree ", "tree (((())))", "value 1 1 4", "count 10 1", "glue 1 6", "class aAa"}
		what := []string{"", "dual ", " mirror", "least 1", "form", "form 0 0", "delete", "contract", "tutte tutte", "tree", "zzz", "map 2 (0,1)"}
		if n > 6 {
			lines = append(lines, "tutte")
		}
		for e := range n / 2 {
			kind := kindOf(k.m, e)
			if kind == 1 || n == 2 {
				lines = append(lines, "delete "+strconv.Itoa(e))
			}
			if kind == 2 || n == 2 {
				lines = append(lines, "contract "+strconv.Itoa(e))
			}
		}
		for i, line := range append(lines, what...) {
			want := "no"
			if i >= len(lines) {
				want = "what"
			}
			answers(t, allLines(mapLine(k.m), line, "show", "counts"), "ok", want, showOf(k.m), tellOf(k.m), lastLine(n))
		}
	}
}

// TestScriptsKeepNoState runs all scripts in one order and then in the opposite one.
func TestScriptsKeepNoState(t *testing.T) {
	scripts := append(otherScripts(), "", "x", strings.Repeat("x", 501), "dual\n", "show\n", "dual\nshow\n")
	first := make([]string, len(scripts))
	for i, script := range scripts {
		first[i] = impl.Execute(script)
	}
	for i, script := range slices.Backward(scripts) {
		sameText(t, "Execute of "+strconv.Quote(script)+" again", impl.Execute(script), first[i])
		sameText(t, "Execute of "+strconv.Quote(script)+" twice", impl.Execute(script), first[i])
	}
}
