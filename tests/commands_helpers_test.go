package tests

import (
	"cmp"
	"fmt"
	"slices"
	"strings"
	"testing"

	"loop.example/partialcharts/impl"
)

// mostBytes is the greatest number of bytes of a script, as the document tells it.
const mostBytes = 600

// bareWords are the words of lines without a rest, and restWords those of lines with one.
var (
	bareWords = []string{"turned", "give", "show", "rank", "ways", "index", "period", "size", "classes", "unitary"}
	restWords = []string{"chart", "times", "below", "tree", "same", "graph", "pair"}
)

// The next functions say what the document says of scripts, by the plain readings of the other chapters, without the program.

// scripted is what the lines of a script have come to.
type scripted struct {
	chart []int
	given [][]int
}

// executeOf returns the output of a script.
func executeOf(script string) string {
	if len(script) > mostBytes {
		return "too long\n"
	}
	s := scripted{chart: []int{0, 1, 2}}
	output := ""
	for strings.Contains(script, "\n") {
		end := strings.Index(script, "\n")
		output += s.answerOf(script[:end]) + "\n"
		script = script[end+1:]
	}
	return fmt.Sprintf("%sgiven %d\n", output, len(s.given))
}

// answerOf returns the answer to a line.
func (s *scripted) answerOf(line string) string {
	space := strings.Index(line, " ")
	switch {
	case space < 0 && slices.Contains(bareWords, line):
		return s.bareOf(line)
	case space >= 0 && slices.Contains(restWords, line[:space]):
		return s.restOf(line[:space], line[space+1:])
	}
	return "what"
}

// bareOf returns the answer to a line without a rest.
func (s *scripted) bareOf(word string) string {
	switch word {
	case "turned":
		s.chart = turnedOf(s.chart)
		return "ok"
	case "give":
		if len(s.given) == 6 {
			return "no"
		}
		s.given = append(s.given, s.chart)
		return "ok"
	case "show":
		return signsOf(s.chart)
	case "rank":
		return fmt.Sprint(pointsIn(domainOf(s.chart)))
	case "ways":
		return waysWrittenOf(s.chart)
	case "index":
		return fmt.Sprint(indexOf(s.chart))
	case "period":
		return fmt.Sprint(periodOf(s.chart))
	}
	return semigroupAnswerOf(word, s.given)
}

// semigroupAnswerOf returns the answer to what is asked for the semigroup of given charts.
func semigroupAnswerOf(word string, given [][]int) string {
	if len(given) == 0 || slices.ContainsFunc(given, func(f []int) bool { return len(f) != len(given[0]) }) {
		return "no"
	}
	list := closureOf(given)
	if len(list) > impl.SizeMax {
		return "no"
	}
	switch word {
	case "size":
		return fmt.Sprint(len(list))
	case "classes":
		return strings.Trim(fmt.Sprint(classesOf(list)), "[]")
	}
	return yesOf(unitaryOf(list))
}

// restOf returns the answer to a line with a rest.
func (s *scripted) restOf(word, rest string) string {
	switch word {
	case "tree":
		return treeWrittenOf(rest)
	case "same":
		texts := strings.Split(rest, " ")
		if len(texts) != 2 {
			return "no"
		}
		return yesOf(isWordOf(texts[0]) && isWordOf(texts[1]) && sameTrees(treeOf(texts[0]), treeOf(texts[1])))
	case "graph":
		return graphWrittenOf(strings.Split(rest, " "))
	case "pair":
		return pairWrittenOf(rest)
	}
	f, ok := signedOf(rest)
	fits := ok && len(f) == len(s.chart)
	switch {
	case !ok || word == "times" && !fits:
		return "no"
	case word == "below":
		return yesOf(fits && belowOf(s.chart, f))
	case word == "times":
		f = timesOf(s.chart, f)
	}
	s.chart = f
	return "ok"
}

// signedOf returns the list that a text of signs tells, and whether it is a chart.
func signedOf(text string) ([]int, bool) {
	var f []int
	for i := range len(text) {
		switch sign := text[i]; {
		case sign == '-':
			f = append(f, -1)
		case sign >= '0' && sign <= '9':
			f = append(f, int(sign)-'0')
		default:
			return nil, false
		}
	}
	return f, isChartOf(f)
}

// signsOf returns points as a text of signs.
func signsOf(f []int) string {
	text := ""
	for _, to := range f {
		text += strings.Replace(fmt.Sprint(to), "-1", "-", 1)
	}
	return text
}

// waysWrittenOf returns the chains of a chart and then its cycles, as texts with spaces between.
func waysWrittenOf(f []int) string {
	var chains, cycles []string
	for i := range f {
		way := []int{i}
		for at := f[i]; at >= 0 && at != i; at = f[at] {
			way = append(way, at)
		}
		switch {
		case !slices.Contains(f, i):
			chains = append(chains, signsOf(way))
		case isCycle(f, way) && slices.Min(way) == i:
			cycles = append(cycles, signsOf(way))
		}
	}
	return strings.Join(append(chains, cycles...), " ")
}

// yesOf returns the answer to whether something holds.
func yesOf(holds bool) string {
	return map[bool]string{true: "yes", false: "not"}[holds]
}

// treeWrittenOf returns the walk through the tree of a word and its end.
func treeWrittenOf(word string) string {
	if !isWordOf(word) {
		return "no"
	}
	tree := treeOf(word)
	return cmp.Or(walkFrom(tree, ""), ".") + " " + cmp.Or(tree.End, ".")
}

// graphWrittenOf returns the rank and the number of nodes of the graph of words.
func graphWrittenOf(words []string) string {
	if len(words) > 6 || !areWordsOf(words) || len(strings.Join(words, "")) > impl.NodesMax {
		return "no"
	}
	g := graphOf(words)
	return fmt.Sprintf("%d %d", rankOf(g), g.Nodes)
}

// pairWrittenOf returns the pair of a text.
func pairWrittenOf(text string) string {
	if len(text) > 40 || strings.Trim(text, "pq") != "" {
		return "no"
	}
	p := inTurnOf(wordPairsOf(text))
	return fmt.Sprintf("%d %d", p.from, p.to)
}

// someLines lists lines of all kinds, those that are carried out more often than the others.
func someLines() []string {
	lines := []string{
		"chart 120", "chart 1-0", "chart 0-2", "chart 021", "chart ---", "chart 01", "chart 1-", "chart 103254", "chart 12345-", "chart -",
		"chart", "chart ", "chart  012", "chart 11", "chart 3", "chart 0123456", "chart x", "Chart 012",
		"times 120", "times 201", "times -01", "times 102", "times 10", "times", "times ", "times 122", "times 0-2 ",
		"below 120", "below 012", "below 10", "below --2", "below", "below ", "below 00",
		"tree aAb", "tree ", "tree abAB", "tree", "tree c", "tree a b", "tree aaaaaaaaaaaaaaaaaaaaaaaaa",
		"same aAbB bBaA", "same a b", "same a", "same  ", "same", "same a  a", "same c c",
		"graph aa ab", "graph ", "graph  ", "graph a  b", "graph", "graph c", "graph a b a b a b a",
		"pair qp", "pair ", "pair ppppppppppqqqqqqqqqqq", "pair", "pair r", "pair p q",
		"", " ", "zzz", " show", "show ", "SHOW", "show\r", "sh", "given", "too long", "what", "no", "\x00", "\xff\xfe", "\u0141\u00f3d\u017a",
		"turned ", "give ", "rank 1", "ways ", "index ", "period ", "size ", "classes ", "unitary ",
	}
	for range 3 {
		lines = append(lines, bareWords...)
	}
	return lines
}

// scriptOf puts some lines together to a script of at most so many bytes; behind the last one that has room stand empty lines.
func scriptOf(seed, most int) string {
	lines := someLines()
	script := ""
	for n := seed; ; {
		n = (n*1103515245 + 12345) % (1 << 31)
		line := lines[n>>8%len(lines)] + "\n"
		if len(script)+len(line) > most {
			return script + strings.Repeat("\n", most-len(script))
		}
		script += line
	}
}

// scriptsUpTo lists scripts of complete lines with at most so many bytes, many of them with just so many.
func scriptsUpTo(most int) []string {
	scripts := []string{"", "\n", "\n\n", strings.Repeat("\n", most), strings.Repeat("x", most-1) + "\n"}
	for _, line := range someLines() {
		scripts = append(scripts, line+"\n", "chart 1-\n"+line+"\n", "chart 201\ngive\n"+line+"\n")
	}
	for seed := range 400 {
		scripts = append(scripts, scriptOf(seed, most), scriptOf(seed, seed))
	}
	return slices.DeleteFunc(scripts, func(script string) bool { return len(script) > most })
}

// eachScript checks something for every one of some scripts of complete lines with room for so many bytes.
func eachScript(t *testing.T, room int, check func(t *testing.T, script string)) {
	t.Helper()
	for _, script := range scriptsUpTo(impl.MaxScript - room) {
		check(t, script)
		if t.Failed() {
			t.Fatalf("with the script %q", script)
		}
	}
}

// giveScript returns the lines that give charts.
func giveScript(given [][]int) string {
	script := ""
	for _, f := range given {
		script += "chart " + signsOf(f) + "\ngive\n"
	}
	return script
}

// checkScript checks the output of a script.
func checkScript(t *testing.T, script, want string) {
	t.Helper()
	if got := impl.Execute(script); got != want {
		t.Errorf("Execute of %q returned %q, and not %q", script, got, want)
	}
}

// spoken is a line of a script and the answer to it.
type spoken struct{ line, answer string }

// checkSpoken checks the answers to lines one behind the other, and the number of given charts that is told behind them.
func checkSpoken(t *testing.T, given int, lines ...spoken) {
	t.Helper()
	script, want := "", ""
	for _, s := range lines {
		script += s.line + "\n"
		want += s.answer + "\n"
	}
	checkScript(t, script, fmt.Sprintf("%sgiven %d\n", want, given))
}
