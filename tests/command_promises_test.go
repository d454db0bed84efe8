package tests

import (
	"strconv"
	"strings"
	"testing"

	"loop.example/surfacemaps/impl"
)

// TestKnownScripts holds Execute against what was worked out by hand, and so does outputOf, by which
// further scripts are told.
func TestKnownScripts(t *testing.T) {
	for _, k := range knownScripts() {
		answers(t, k.script(), k.want...)
		sameText(t, "what the tests tell of "+strconv.Quote(k.script()), outputOf(k.script()), allLines(k.want...))
	}
}

// completeScripts returns scripts of complete lines: the known ones, each line of them alone, and
// the first two and the last two of each.
func completeScripts() []string {
	var out []string
	for _, k := range knownScripts() {
		out = append(out, k.script())
		for i, line := range k.lines {
			out = append(out, allLines(line), allLines(k.lines[:i+1]...), allLines(k.lines[i:]...))
		}
	}
	return out
}

// withAhead returns an output with further lines ahead of its last one.
func withAhead(output string, lines ...string) string {
	last := strings.LastIndexByte(output[:len(output)-1], '\n') + 1
	return output[:last] + allLines(lines...) + output[last:]
}

// Promise 109: an empty script, and what follows the last newline.
func TestPromise109Empty(t *testing.T) {
	answers(t, "", "darts 2")
	tails := []string{"s", "show", "show ", "dual", "zzz", "form 99", "map 4 (0,1,2,3) (0,2)(1,3)", " ", "  ", "darts 4", "\x00", "\xff", "é", "\r", strings.Repeat("x", 300)}
	for _, script := range completeScripts() {
		want := impl.Execute(script)
		if want == "" || !strings.HasSuffix(want, "\n") || strings.Count(want, "\n") != strings.Count(script, "\n")+1 {
			t.Errorf("Execute(%q) = %q", script, want)
		}
		for _, tail := range append(tails, strings.Repeat("y", 500-len(script))) {
			if len(script+tail) <= 500 {
				sameText(t, "Execute of "+strconv.Quote(script+tail), impl.Execute(script+tail), want)
			}
		}
	}
	for _, tail := range tails {
		answers(t, tail, "darts 2")
	}
}

// withRoom returns complete scripts with room for some bytes, and ones that leave just these.
func withRoom(room int) []string {
	var out []string
	for _, script := range completeScripts() {
		if len(script)+room <= 500 {
			out = append(out, script)
		}
		if len(script)+room < 500 {
			out = append(out, filled(script, 500-room))
		}
	}
	return out
}

// Promise 110: two lines of which one is no command and the other one fails.
func TestPromise110What(t *testing.T) {
	for _, script := range withRoom(12) {
		want := withAhead(impl.Execute(script), "what", "no")
		sameText(t, "Execute of "+strconv.Quote(script)+" with zzz and form 99", impl.Execute(script+"zzz\nform 99\n"), want)
	}
}

// Promise 111: show twice, as the map is behind the script.
func TestPromise111Show(t *testing.T) {
	for _, script := range withRoom(10) {
		got := impl.Execute(script + "show\nshow\n")
		lines := strings.Split(got, "\n")
		shown := lines[len(lines)-3]
		sameText(t, "Execute of "+strconv.Quote(script)+" with show twice", got, withAhead(impl.Execute(script), shown, shown))
		if darts := strings.TrimPrefix(lines[len(lines)-2], "darts "); !strings.Contains(shown, " (") || darts == lines[len(lines)-2] {
			t.Errorf("Execute of %q with show twice ends with %q", script, lines[len(lines)-4:])
		}
	}
}

// shown asks a map for a line that makes a map, which is shown then.
func shown(t *testing.T, m impl.Map, line string, next impl.Map) {
	t.Helper()
	answers(t, allLines(mapLine(m), line, "show"), "ok", "ok", showOf(next), lastLine(len(next.Turn)))
}

// Promise 112: dual maps, and mirrors and least forms with them.
func TestPromise112Dual(t *testing.T) {
	one := must[impl.Map](t)
	for _, m := range sampleMaps() {
		shown(t, m, "dual", one(impl.MapDual(m)))
		shown(t, m, "mirror", one(impl.MapMirror(m)))
		shown(t, m, "least", one(impl.MapLeast(m)))
	}
}

// Promise 113: counts.
func TestPromise113Counts(t *testing.T) {
	greatest := 0
	for _, m := range sampleMaps() {
		counts := must[[]int](t)(impl.MapCounts(m))
		genus := impl.MapGenus(m)
		greatest = max(greatest, genus)
		var texts []string
		for _, n := range append(counts, genus) {
			texts = append(texts, strconv.Itoa(n))
		}
		answers(t, allLines(mapLine(m), "counts"), "ok", strings.Join(texts, " "), lastLine(len(m.Turn)))
	}
	if greatest != 3 {
		t.Errorf("the greatest genus here is %d", greatest)
	}
}

// Promise 114: forms from all darts.
func TestPromise114Form(t *testing.T) {
	one := must[impl.Map](t)
	for _, m := range sampleMaps() {
		for d := range m.Turn {
			shown(t, m, "form "+strconv.Itoa(d), one(impl.MapForm(m, d)))
		}
		answers(t, allLines(mapLine(m), "form "+strconv.Itoa(len(m.Turn)), "show"), "ok", "no", showOf(m), lastLine(len(m.Turn)))
	}
}

// Promise 115: edges that are contracted, and ones that are deleted.
func TestPromise115Contract(t *testing.T) {
	calls := map[string]func(m impl.Map, e int) (impl.Map, bool){"contract ": impl.EdgeContract, "delete ": impl.EdgeDelete}
	for name, call := range calls {
		done := map[bool]int{}
		for _, m := range ribbonMaps() {
			for e := range len(m.Flip)/2 + 1 {
				next, ok := call(m, e)
				done[ok]++
				if ok {
					shown(t, m, name+strconv.Itoa(e), next)
					continue
				}
				answers(t, allLines(mapLine(m), name+strconv.Itoa(e), "show"), "ok", "no", showOf(m), lastLine(len(m.Turn)))
			}
		}
		if done[true] < 1000 || done[false] < 1000 {
			t.Errorf("%ssucceeds %d times and fails %d times", name, done[true], done[false])
		}
	}
}

// Promise 116: values, for the known maps at all numbers.
func TestPromise116Value(t *testing.T) {
	ask := func(m impl.Map, x, y, z, want int) {
		t.Helper()
		line := "value " + strconv.Itoa(x) + " " + strconv.Itoa(y) + " " + strconv.Itoa(z)
		answers(t, allLines(mapLine(m), line), "ok", strconv.Itoa(want), lastLine(len(m.Turn)))
	}
	for _, k := range knownRibbons() {
		eachValue(func(x, y, z int) { ask(k.m, x, y, z, valueAt(k.terms, x, y, z)) })
	}
	for i, m := range sampleMaps() {
		x, y, z := i%4, i/4%4, (i+i/4+1)%4
		value := impl.RibbonValue(m, x, y, z)
		if value < 0 {
			t.Errorf("RibbonValue(%v, %d, %d, %d) = %d", m, x, y, z, value)
		}
		ask(m, x, y, z, value)
	}
}

// Promise 117: quadrangulations of maps, if these have not too many darts.
func TestPromise117Tutte(t *testing.T) {
	many := map[int]int{}
	for _, m := range sampleMaps() {
		many[len(m.Turn)]++
		if quad, ok := impl.TutteQuad(m); ok {
			shown(t, m, "tutte", quad)
			continue
		}
		if len(m.Turn) <= 6 {
			t.Errorf("TutteQuad(%v) fails", m)
		}
		answers(t, allLines(mapLine(m), "tutte", "show"), "ok", "no", showOf(m), lastLine(len(m.Turn)))
	}
	for n := 2; n <= 12; n += 2 {
		if many[n] == 0 {
			t.Errorf("no map here has %d darts", n)
		}
	}
}

// TestTreeLines asks for the trees of all words, of which some are too long.
func TestTreeLines(t *testing.T) {
	trees := 0
	for _, word := range wordsOf("()", 8) {
		tree := impl.Tree{Word: word, Steps: make([]int, len(word)/2)}
		if isTree(tree) {
			quad, _ := quadOf(tree)
			trees++
			answers(t, allLines("tree "+word, "show"), "ok", showOf(quad), lastLine(2*len(word)))
			continue
		}
		answers(t, allLines("tree "+word, "show"), "no", "(0,1) (0,1)", "darts 2")
	}
	if trees != 1+2+5 {
		t.Errorf("%d words are trees", trees)
	}
	for _, tree := range notTrees() {
		// What is invalid for its steps alone may be a tree without them.
		asDocument(t, allLines("tree "+tree.Word, "show"))
	}
}

// Promise 118: classes, and texts without one.
func TestPromise118Class(t *testing.T) {
	seen := map[string]bool{}
	for _, s := range sampleWords() {
		class := wordClass(s)
		seen[class] = true
		answers(t, allLines("class "+s), class, "darts 2")
		sameText(t, "WordClass of "+s, impl.WordClass(s), class)
	}
	if len(seen) != 8 {
		t.Errorf("the words here are of %d classes", len(seen))
	}
	for _, s := range notWords() {
		asDocument(t, allLines("class "+s))
	}
	answers(t, "class \n", "no", "darts 2")
	answers(t, "class\n", "what", "darts 2")
}

// TestCountLines asks count and glue for all numbers of one and of two digits, the latter also with
// a zero ahead.
func TestCountLines(t *testing.T) {
	for name, rows := range map[string][][]int{"count ": rootedRows(), "glue ": gluingRows()} {
		for x := range 100 {
			for y := range 100 {
				want := "no"
				if x <= 9 && y <= 5 {
					want = strconv.Itoa(atOrZero(rows[x], y))
				}
				short := strconv.Itoa(x) + " " + strconv.Itoa(y)
				answers(t, name+short+"\n", want, "darts 2")
				if x < 10 && y < 10 {
					answers(t, name+"0"+strings.Replace(short, " ", " 0", 1)+"\n", want, "darts 2")
				}
			}
		}
	}
}
