package tests

import (
	"fmt"
	"slices"
	"strings"
	"testing"

	"loop.example/partialcharts/impl"
)

func TestExecute(t *testing.T) {
	checkSpoken(t, 1,
		spoken{"show", "012"},
		spoken{"chart 1-0", "ok"},
		spoken{"times 1-0", "ok"},
		spoken{"show", "--1"},
		spoken{"turned", "ok"},
		spoken{"show", "-2-"},
		spoken{"rank", "1"},
		spoken{"ways", "0 12"},
		spoken{"index", "2"},
		spoken{"period", "1"},
		spoken{"below 02-", "yes"},
		spoken{"below 021", "yes"},
		spoken{"below 012", "not"},
		spoken{"give", "ok"},
		spoken{"size", "5"},
		spoken{"classes", "3 3 5"},
		spoken{"unitary", "not"},
		spoken{"tree aAb", "aAbB b"},
		spoken{"same aAbB bBaA", "yes"},
		spoken{"graph aa ab", "2 2"},
		spoken{"pair qqp", "2 1"},
		spoken{"none", "what"},
	)
	checkScript(t, "chart 1-0\ntimes 1-0\nshow\ngive\nsize\nzzz\n", "ok\nok\n--1\nok\n5\nwhat\ngiven 1\n")
	eachScript(t, 0, func(t *testing.T, script string) {
		checkScript(t, script, executeOf(script))
	})
}

func TestExecuteOfLinesThatDoNotEnd(t *testing.T) {
	for _, c := range []struct{ script, want string }{
		{"", "given 0\n"},
		{"\n", "what\ngiven 0\n"},
		{"\n\n", "what\nwhat\ngiven 0\n"},
		{" ", "given 0\n"},
		{" \n", "what\ngiven 0\n"},
		{"show", "given 0\n"},
		{"give", "given 0\n"},
		{"zzz", "given 0\n"},
		{"chart x", "given 0\n"},
		{"\x00", "given 0\n"},
		{"\r", "given 0\n"},
		{"\r\n", "what\ngiven 0\n"},
		{"show\n", "012\ngiven 0\n"},
		{"show\nshow", "012\ngiven 0\n"},
		{"show\nshow\n", "012\n012\ngiven 0\n"},
		{"show\n\n", "012\nwhat\ngiven 0\n"},
		{"\nshow", "what\ngiven 0\n"},
		{"\nshow\n", "what\n012\ngiven 0\n"},
		{"give\ngive", "ok\ngiven 1\n"},
		{"give\ngive\n", "ok\nok\ngiven 2\n"},
		{"chart 1\nshow", "no\ngiven 0\n"},
		{"chart 0\nsho\nshow\nw", "ok\nwhat\n0\ngiven 0\n"},
	} {
		checkScript(t, c.script, c.want)
	}
}

func TestExecuteOfLongScripts(t *testing.T) {
	whats := strings.Repeat("what\n", 600)
	for _, c := range []struct{ script, want string }{
		{strings.Repeat("\n", 599), whats[5:] + "given 0\n"},
		{strings.Repeat("\n", 600), whats + "given 0\n"},
		{strings.Repeat("\n", 601), "too long\n"},
		{strings.Repeat("x", 600), "given 0\n"},
		{strings.Repeat("x", 601), "too long\n"},
		{strings.Repeat("x", 599) + "\n", "what\ngiven 0\n"},
		{strings.Repeat("x", 600) + "\n", "too long\n"},
		{strings.Repeat("\x00", 600), "given 0\n"},
		{strings.Repeat("\x00", 601), "too long\n"},
		{strings.Repeat("\n", 600) + "x", "too long\n"},
		{"show\n" + strings.Repeat("x", 595), "012\ngiven 0\n"},
		{"show\n" + strings.Repeat("x", 596), "too long\n"},
		{"chart " + strings.Repeat("0", 593) + "\n", "no\ngiven 0\n"},
		{"pair " + strings.Repeat("p", 594) + "\n", "no\ngiven 0\n"},
		{"graph" + strings.Repeat(" ", 594) + "\n", "no\ngiven 0\n"},
		{"tree " + strings.Repeat("aA", 297) + "\n", "no\ngiven 0\n"},
		// Bytes are counted, and not what they spell.
		{strings.Repeat("\u20ac", 200), "given 0\n"},
		{strings.Repeat("\u20ac", 201), "too long\n"},
		{strings.Repeat("\u00e9", 300), "given 0\n"},
		{strings.Repeat("\u00e9", 301), "too long\n"},
		{strings.Repeat("show\n", 120), strings.Repeat("012\n", 120) + "given 0\n"},
		{strings.Repeat("show\n", 121), "too long\n"},
		{strings.Repeat("show\n", 100000), "too long\n"},
	} {
		checkScript(t, c.script, c.want)
	}
}

// TestExecuteOfRests puts nothing, a space, two spaces and more behind each word, and a space ahead of it.
func TestExecuteOfRests(t *testing.T) {
	for _, c := range []struct {
		word, bare string
		given      int
	}{
		{"turned", "ok", 0}, {"give", "ok", 1}, {"show", "012", 0}, {"rank", "3", 0}, {"ways", "0 1 2", 0},
		{"index", "0", 0}, {"period", "1", 0}, {"size", "no", 0}, {"classes", "no", 0}, {"unitary", "no", 0},
	} {
		checkSpoken(t, c.given, spoken{c.word, c.bare})
		for _, more := range []string{" ", "  ", " 012", " a", " " + c.word, "  012", " \r"} {
			checkSpoken(t, 0, spoken{c.word + more, "what"})
		}
		checkSpoken(t, 0, spoken{" " + c.word, "what"}, spoken{" " + c.word + " ", "what"}, spoken{"  " + c.word, "what"})
	}
	for _, c := range []struct{ word, space, spaces, rest, answer string }{
		{"chart", "no", "no", "01-", "ok"},
		{"times", "no", "no", "01-", "ok"},
		{"below", "no", "no", "01-", "not"},
		{"tree", ". .", "no", "ab", "abBA ab"},
		{"same", "no", "yes", "aA ", "not"},
		{"graph", "0 1", "0 1", "ab", "1 2"},
		{"pair", "0 0", "no", "pq", "0 0"},
	} {
		checkSpoken(t, 0, spoken{c.word, "what"}, spoken{" " + c.word, "what"}, spoken{c.word + "\t" + c.rest, "what"}, spoken{c.word + c.rest, "what"})
		checkSpoken(t, 0, spoken{c.word + " ", c.space}, spoken{c.word + "  ", c.spaces}, spoken{c.word + " " + c.rest, c.answer})
		checkSpoken(t, 0, spoken{" " + c.word + " " + c.rest, "what"}, spoken{"  " + c.word + " " + c.rest, "what"})
	}
}

// TestExecuteOfSpacesInRests puts one more space ahead of rests, and behind them.
func TestExecuteOfSpacesInRests(t *testing.T) {
	for _, c := range []spoken{
		{"chart  01-", "no"}, {"chart 01- ", "no"}, {"chart 0 1", "no"},
		{"times  01-", "no"}, {"times 01- ", "no"},
		{"below  012", "no"}, {"below 012 ", "no"},
		{"tree  ab", "no"}, {"tree ab ", "no"},
		{"same  a", "not"}, {"same  aA", "not"}, {"same a ", "not"}, {"same  a a", "no"}, {"same a a ", "no"},
		{"graph  ab", "1 2"}, {"graph ab ", "1 2"},
		{"pair  p", "no"}, {"pair p ", "no"}, {"pair p q", "no"},
	} {
		checkSpoken(t, 0, c, spoken{"show", "012"})
	}
}

// TestExecuteOfOtherWords asks for words that are none, many of which begin or end as a word does.
func TestExecuteOfOtherWords(t *testing.T) {
	words := slices.Concat(bareWords, restWords)
	for _, word := range words {
		others := []string{
			strings.ToUpper(word), strings.ToUpper(word[:1]) + word[1:], word[1:], word + "s", word + "0", word + word, word + "n",
			word + "\r", word + "\x00", "\x00" + word, word + "\xff", word + "\u00e9", word + "\u00a0", word + "\t", "\t" + word, "\ufeff" + word,
			word + ".", word + ",", "-" + word, strings.Replace(word, "e", "\u0435", 1), strings.Replace(word, "a", "\u0430", 1),
		}
		others = append(others, beginningsOf(word)...)
		for _, other := range others {
			if slices.Contains(words, other) {
				continue
			}
			checkSpoken(t, 0, spoken{other, "what"}, spoken{other + " ", "what"}, spoken{other + " 1-", "what"}, spoken{other + " a b", "what"}, spoken{"show", "012"})
		}
	}
	for _, line := range []string{
		"", " ", "  ", "\t", "\r", "\x00", "\xff", "\xc3\x28", "\u00e9", "\U0001f600", "012", "ok", "no", "yes", "none", "given", "given 0", "too long",
		"chart012", "show;show", "show,", "map", "word", "graphs", "pairs", "treeab", "sameab",
	} {
		checkSpoken(t, 0, spoken{line, "what"}, spoken{"show", "012"})
	}
}

func TestExecuteOfCharts(t *testing.T) {
	eachChart(t, func(t *testing.T, f []int) {
		text := signsOf(f)
		checkSpoken(t, 0, spoken{"chart " + text, "ok"}, spoken{"show", text})
	})
	// The signs of a number may be those of a chart, too.
	for _, text := range []string{"-", "0", "--", "1-", "10", "-1", "-1-2", "0-1", "012345", "543210", "------", "-----5", "5-----"} {
		checkSpoken(t, 0, spoken{"chart " + text, "ok"}, spoken{"show", text})
	}
}

// noChartTexts lists texts that tell no charts.
func noChartTexts() []string {
	return []string{
		"", " ", "1", "5", "6", "9", "2-", "02", "0-3", "01-4", "0126", "01235", "012346", "01234:", "01234/", "6-----", "-----6", "-----9",
		"00", "11", "0-0", "1-1", "--11--", "012340", "555555", "01-1--",
		"0123456", "-------", "0123450", "012345-", "-012345", "012345\r", "012345 ", "0123456789",
		"x", "0x", "x0", "01x", "+0", "/0", "0/", ":0", "0:", ".", "_", "~", "\u2212", "0\u2212", "\u2013", "\u0660", "\uff10", "\u00b2",
		"01\r", "\r", "01\x00", "\x00", "\xff", "01\xff", "0 1", "0,1", "0\t1", "[0]", "- 1", "0, 1, 2", "012 012",
		strings.Repeat("-", 100), strings.Repeat("0", 100), strings.Repeat("012345", 20),
	}
}

func TestExecuteOfNoCharts(t *testing.T) {
	for _, text := range noChartTexts() {
		for _, word := range []string{"chart", "times", "below"} {
			for _, chart := range []string{"0", "1-", "1-0", "1230", "12345-"} {
				checkSpoken(t, 0, spoken{"chart " + chart, "ok"}, spoken{word + " " + text, "no"}, spoken{"show", chart})
			}
		}
	}
}

// TestExecuteOfAllSigns takes each byte but the newline as the only sign of a chart, and as one of more.
func TestExecuteOfAllSigns(t *testing.T) {
	for sign := range 256 {
		text := string([]byte{byte(sign)})
		if text == "\n" {
			continue
		}
		for _, c := range []struct{ ahead, behind, good string }{
			{"", "", "-0"},
			{"1", "", "-0"},
			{"", "-1", "-02"},
			{"01", "2", "-3"},
			{"01234", "", "-5"},
			{"", "12345", "-0"},
			{"012", "--", "-345"},
		} {
			want := "no"
			if strings.Contains(c.good, text) {
				want = "ok"
			}
			checkSpoken(t, 0, spoken{"chart " + c.ahead + text + c.behind, want})
		}
	}
}

func TestExecuteTimesAndBelow(t *testing.T) {
	eachPair(t, func(t *testing.T, f, g []int) {
		first, second := signsOf(f), signsOf(g)
		checkSpoken(t, 0,
			spoken{"chart " + first, "ok"},
			spoken{"below " + second, yesOf(belowOf(f, g))},
			spoken{"show", first},
			spoken{"times " + second, "ok"},
			spoken{"show", signsOf(timesOf(f, g))},
			spoken{"turned", "ok"},
			spoken{"show", signsOf(turnedOf(timesOf(f, g)))},
		)
	})
	for _, c := range []struct{ chart, line, answer string }{
		{"10-", "times 012", "ok"},
		{"10-", "times 01", "no"},
		{"10-", "times 0123", "no"},
		{"10-", "times -", "no"},
		{"10-", "times 10-2", "no"},
		{"-", "times 01", "no"},
		{"0", "times 012345", "no"},
		{"012345", "times 0", "no"},
		{"10-", "below 102", "yes"},
		{"10-", "below 10-", "yes"},
		{"10-", "below 1--", "not"},
		{"1--", "below 10-", "yes"},
		{"---", "below 201", "yes"},
		// A chart of another number of points is a chart, but this one is not below it.
		{"10-", "below 10", "not"},
		{"10-", "below 1023", "not"},
		{"10-", "below 102345", "not"},
		{"---", "below --", "not"},
		{"--", "below ---", "not"},
		{"-", "below 012345", "not"},
		{"------", "below -", "not"},
	} {
		checkSpoken(t, 0, spoken{"chart " + c.chart, "ok"}, spoken{c.line, c.answer})
		if c.answer != "ok" {
			checkSpoken(t, 0, spoken{"chart " + c.chart, "ok"}, spoken{c.line, c.answer}, spoken{"show", c.chart})
		}
	}
}

func TestExecuteTurned(t *testing.T) {
	eachChart(t, func(t *testing.T, f []int) {
		text, back := signsOf(f), signsOf(turnedOf(f))
		checkSpoken(t, 0,
			spoken{"chart " + text, "ok"}, spoken{"turned", "ok"}, spoken{"show", back}, spoken{"turned", "ok"}, spoken{"show", text})
	})
	checkSpoken(t, 0, spoken{"chart 1-0", "ok"}, spoken{"turned", "ok"}, spoken{"show", "20-"}, spoken{"turned", "ok"}, spoken{"show", "1-0"})
}

func TestExecuteOfWays(t *testing.T) {
	for _, c := range []struct{ chart, rank, ways, index, period string }{
		{"-", "0", "0", "1", "1"},
		{"0", "1", "0", "0", "1"},
		{"---", "0", "0 1 2", "1", "1"},
		{"012", "3", "0 1 2", "0", "1"},
		{"1-0", "2", "201", "3", "1"},
		{"120", "3", "012", "0", "3"},
		{"10-", "2", "2 01", "1", "2"},
		{"-21", "2", "0 12", "1", "2"},
		{"0--", "1", "1 2 0", "1", "1"},
		{"12345-", "5", "012345", "6", "1"},
		{"-01234", "5", "543210", "6", "1"},
		{"123450", "6", "012345", "0", "6"},
		{"501234", "6", "054321", "0", "6"},
		{"35-214", "5", "032 154", "3", "3"},
		{"1-0435", "5", "201 34 5", "3", "2"},
		{"120453", "6", "012 345", "0", "3"},
		{"103254", "6", "01 23 45", "0", "2"},
		{"102453", "6", "01 2 345", "0", "6"},
		{"------", "0", "0 1 2 3 4 5", "1", "1"},
		{"012345", "6", "0 1 2 3 4 5", "0", "1"},
	} {
		checkSpoken(t, 0,
			spoken{"chart " + c.chart, "ok"},
			spoken{"rank", c.rank}, spoken{"ways", c.ways}, spoken{"index", c.index}, spoken{"period", c.period}, spoken{"show", c.chart})
	}
	eachChart(t, func(t *testing.T, f []int) {
		checkSpoken(t, 0,
			spoken{"chart " + signsOf(f), "ok"},
			spoken{"rank", fmt.Sprint(pointsIn(domainOf(f)))},
			spoken{"ways", waysWrittenOf(f)},
			spoken{"index", fmt.Sprint(indexOf(f))},
			spoken{"period", fmt.Sprint(periodOf(f))})
	})
}

func TestExecuteGive(t *testing.T) {
	given := func(count int) string { return strings.Repeat("give\n", count) }
	oks := func(count int) string { return strings.Repeat("ok\n", count) }
	for count := range 7 {
		checkScript(t, given(count), fmt.Sprintf("%sgiven %d\n", oks(count), count))
	}
	for count := 7; count <= 120; count++ {
		checkScript(t, given(count), oks(6)+strings.Repeat("no\n", count-6)+"given 6\n")
	}
	// The seventh chart is not among the given ones, and the chart stays.
	checkScript(t, given(6)+"chart 120\ngive\nshow\nsize\n", oks(6)+"ok\nno\n120\n1\ngiven 6\n")
	checkScript(t, given(5)+"chart 120\ngive\nshow\nsize\n", oks(5)+"ok\nok\n120\n3\ngiven 6\n")
	// Given charts stay as they were, whatever the chart becomes.
	checkScript(t, "give\nchart 10\nsize\ntimes 1-\nturned\nsize\n", "ok\nok\n1\nok\nok\n1\ngiven 1\n")
	checkScript(t, "chart 120\ngive\nsize\nturned\nsize\ntimes 0--\nsize\ngive\nsize\n", "ok\nok\n3\nok\n3\nok\n3\nok\n13\ngiven 2\n")
}

func TestExecuteOfSemigroups(t *testing.T) {
	for _, given := range append(someGiven(), given399, given400) {
		list := closureOf(given)
		want := fmt.Sprintf("%d\n%s\n%s\n", len(list), strings.Trim(fmt.Sprint(classesOf(list)), "[]"), yesOf(unitaryOf(list)))
		script := giveScript(given)
		oks := strings.Repeat("ok\n", 2*len(given))
		last := fmt.Sprintf("given %d\n", len(given))
		checkScript(t, script+"size\nclasses\nunitary\n", oks+want+last)
		// What the chart is then makes no difference.
		checkScript(t, script+"chart 0\nsize\nclasses\nunitary\n", oks+"ok\n"+want+last)
	}
	for _, c := range []struct{ script, want string }{
		{"give\nsize\nclasses\nunitary\n", "ok\n1\n1 1 1\nyes\ngiven 1\n"},
		{"chart -\ngive\nsize\nclasses\nunitary\n", "ok\nok\n1\n1 1 1\nyes\ngiven 1\n"},
		{"chart 120\ngive\nsize\nclasses\nunitary\n", "ok\nok\n3\n1 1 1\nyes\ngiven 1\n"},
		{"chart 1-\ngive\nsize\nclasses\nunitary\n", "ok\nok\n5\n3 3 5\nnot\ngiven 1\n"},
		{"chart 1-\ngive\nchart 01\ngive\nsize\nclasses\nunitary\n", "ok\nok\nok\nok\n6\n4 4 6\nnot\ngiven 2\n"},
	} {
		checkScript(t, c.script, c.want)
	}
}

// TestExecuteOfNoSemigroups gives no charts, charts of unlike numbers of points, and charts with too many products.
func TestExecuteOfNoSemigroups(t *testing.T) {
	for _, given := range [][][]int{
		nil,
		{{0}, {0, 1}},
		{{0, 1}, {0}},
		{{-1}, {-1, -1, -1, -1, -1, -1}},
		{{0, 1, 2}, {0, 1, 2}, {0, 1, 2}, {0, 1, 2}, {0, 1, 2}, {0, 1, 2, 3}},
		{{0, 1, 2, 3}, {0, 1, 2}, {0, 1, 2}, {0, 1, 2}, {0, 1, 2}, {0, 1, 2}},
		given401,
		{{1, 2, 3, 4, 0}, {1, 0, 2, 3, 4}, {0, 1, 2, 3, -1}},
		{{1, 2, 3, 4, 5, 0}, {1, 0, 2, 3, 4, 5}},
		{{1, 2, 3, 4, 5, 0}, {1, 0, 2, 3, 4, 5}, {0, 1, 2, 3, 4, -1}},
	} {
		oks := strings.Repeat("ok\n", 2*len(given))
		checkScript(t, giveScript(given)+"size\nclasses\nunitary\n", fmt.Sprintf("%sno\nno\nno\ngiven %d\n", oks, len(given)))
	}
	checkSpoken(t, 2,
		spoken{"size", "no"}, spoken{"classes", "no"}, spoken{"unitary", "no"},
		spoken{"give", "ok"}, spoken{"size", "1"}, spoken{"classes", "1 1 1"}, spoken{"unitary", "yes"},
		spoken{"chart 10", "ok"}, spoken{"size", "1"}, spoken{"give", "ok"},
		spoken{"size", "no"}, spoken{"classes", "no"}, spoken{"unitary", "no"}, spoken{"show", "10"})
}

func TestExecuteTree(t *testing.T) {
	for _, c := range []spoken{
		{"tree ", ". ."},
		{"tree a", "aA a"},
		{"tree A", "Aa A"},
		{"tree aA", "aA ."},
		{"tree Bb", "Bb ."},
		{"tree aAb", "aAbB b"},
		{"tree ba", "baAB ba"},
		{"tree abAB", "abABbaBA abAB"},
		{"tree abBA", "abBA ."},
		{"tree aAbBAaBb", "AaBbaAbB ."},
		{"tree " + strings.Repeat("a", 24), strings.Repeat("a", 24) + strings.Repeat("A", 24) + " " + strings.Repeat("a", 24)},
		{"tree " + strings.Repeat("aA", 12), "aA ."},
		{"tree " + strings.Repeat("a", 25), "no"},
		{"tree " + strings.Repeat("aA", 12) + "b", "no"},
		{"tree .", "no"},
		{"tree c", "no"},
		{"tree abc", "no"},
		{"tree a b", "no"},
		{"tree a\r", "no"},
		{"tree a\x00", "no"},
		{"tree \u00e4", "no"},
	} {
		checkSpoken(t, 0, c)
	}
	eachWord(t, func(t *testing.T, word string) {
		checkSpoken(t, 0, spoken{"tree " + word, treeWrittenOf(word)})
	})
	for _, text := range noWords() {
		if line := "tree " + text; !strings.Contains(text, "\n") && len(line) < mostBytes {
			checkSpoken(t, 0, spoken{line, "no"})
		}
	}
}

func TestExecuteSame(t *testing.T) {
	long := strings.Repeat("aA", 12)
	for _, c := range []spoken{
		{"same ", "no"},
		{"same a", "no"},
		{"same aA", "no"},
		{"same  ", "yes"},
		{"same   ", "no"},
		{"same    ", "no"},
		{"same  a", "not"},
		{"same a ", "not"},
		{"same a a", "yes"},
		{"same a A", "not"},
		{"same a  a", "no"},
		{"same  a a", "no"},
		{"same a a ", "no"},
		{"same a a a", "no"},
		{"same aAbB bBaA", "yes"},
		{"same aAb b", "not"},
		{"same aA bB", "not"},
		{"same aA aAaA", "yes"},
		{"same aA " + long, "yes"},
		{"same aA " + long + "a", "not"},
		{"same " + long + "aA aA", "not"},
		{"same a c", "not"},
		{"same c a", "not"},
		{"same c c", "not"},
		{"same c ", "not"},
		{"same  c", "not"},
		{"same c", "no"},
		{"same a\ta", "no"},
		{"same a a\r", "not"},
		{"same a\x00 a\x00", "not"},
		{"same . .", "not"},
	} {
		checkSpoken(t, 0, c)
	}
	words := wordsUpTo(3)
	for _, first := range words {
		for _, second := range words {
			checkSpoken(t, 0, spoken{"same " + first + " " + second, yesOf(sameTrees(treeOf(first), treeOf(second)))})
		}
	}
}

func TestExecuteGraph(t *testing.T) {
	a := func(count int) string { return strings.Repeat("a", count) }
	for _, c := range []spoken{
		{"graph ", "0 1"},
		{"graph  ", "0 1"},
		{"graph      ", "0 1"},
		{"graph       ", "no"},
		{"graph a", "1 1"},
		{"graph aa ab", "2 2"},
		{"graph a b", "2 1"},
		{"graph a  b", "2 1"},
		{"graph  a b", "2 1"},
		{"graph a b ", "2 1"},
		{"graph a     b", "2 1"},
		{"graph a      b", "no"},
		{"graph a b a b a b", "2 1"},
		{"graph a b a b a b a", "no"},
		{"graph a b a b a b ", "no"},
		{"graph  a b a b a b", "no"},
		{"graph aA", "0 2"},
		{"graph aAb", "1 2"},
		{"graph " + a(24), "1 24"},
		{"graph " + a(25), "no"},
		{"graph " + a(24) + " " + a(16), "1 8"},
		{"graph " + a(24) + " " + a(17), "no"},
		{"graph " + a(24) + " " + strings.Repeat("b", 16), "2 39"},
		{"graph " + a(20) + " " + strings.Repeat("b", 20), "2 39"},
		{"graph " + a(20) + " " + strings.Repeat("b", 20) + " ", "2 39"},
		{"graph " + a(20) + " " + strings.Repeat("b", 20) + " a", "no"},
		{"graph " + a(20) + " a " + strings.Repeat("b", 20), "no"},
		{"graph c", "no"},
		{"graph a c", "no"},
		{"graph c a", "no"},
		{"graph a\tb", "no"},
		{"graph a,b", "no"},
		{"graph a b\r", "no"},
		{"graph \x00", "no"},
		{"graph .", "no"},
	} {
		checkSpoken(t, 0, c)
	}
	eachGiven(t, func(t *testing.T, words []string) {
		text := strings.Join(words, " ")
		checkSpoken(t, 0, spoken{"graph " + text, graphWrittenOf(strings.Split(text, " "))})
	})
	for _, words := range noGiven() {
		text := strings.Join(words, " ")
		if len(text) < mostBytes-10 && !strings.Contains(text, "\n") {
			checkSpoken(t, 0, spoken{"graph " + text, graphWrittenOf(strings.Split(text, " "))})
		}
	}
}

func TestExecutePair(t *testing.T) {
	for _, c := range []spoken{
		{"pair ", "0 0"},
		{"pair p", "0 1"},
		{"pair q", "1 0"},
		{"pair pq", "0 0"},
		{"pair qp", "1 1"},
		{"pair " + strings.Repeat("p", 10), "0 10"},
		{"pair " + strings.Repeat("q", 40), "40 0"},
		{"pair " + strings.Repeat("q", 13) + strings.Repeat("p", 27), "13 27"},
		{"pair " + strings.Repeat("p", 13) + strings.Repeat("q", 27), "14 0"},
		{"pair " + strings.Repeat("p", 40), "0 40"},
		{"pair " + strings.Repeat("p", 41), "no"},
		{"pair " + strings.Repeat("pq", 21), "no"},
		{"pair r", "no"},
		{"pair P", "no"},
		{"pair p q", "no"},
		{"pair pqr", "no"},
		{"pair 0 1", "no"},
		{"pair p\r", "no"},
		{"pair \x00", "no"},
		{"pair \xff", "no"},
	} {
		checkSpoken(t, 0, c)
	}
	for _, text := range pairWords() {
		checkSpoken(t, 0, spoken{"pair " + text, pairWrittenOf(text)})
	}
}

// TestExecuteChangesNothing asks what the chart and the semigroup of the given charts are, behind each line that asks, fails or is none.
func TestExecuteChangesNothing(t *testing.T) {
	lines := []string{"show", "rank", "ways", "index", "period", "size", "classes", "unitary", "times 01", "times 20", "times ", "chart 00", "chart "}
	for _, line := range someLines() {
		word, _, spaced := strings.Cut(line, " ")
		if word != "chart" && word != "times" && (spaced || word != "turned" && word != "give") {
			lines = append(lines, line)
		}
	}
	for _, line := range lines {
		s := scripted{chart: []int{1, -1, 0}, given: [][]int{{2, 0, -1}}}
		answer := s.answerOf(line)
		checkSpoken(t, 1,
			spoken{"chart 20-", "ok"}, spoken{"give", "ok"}, spoken{"turned", "ok"},
			spoken{"show", "1-0"}, spoken{"size", "14"}, spoken{"classes", "6 6 14"},
			spoken{line, answer},
			spoken{"show", "1-0"}, spoken{"size", "14"}, spoken{"classes", "6 6 14"},
			spoken{line, answer},
			spoken{"show", "1-0"}, spoken{"size", "14"}, spoken{"classes", "6 6 14"})
	}
	checkSpoken(t, 6,
		spoken{"give", "ok"}, spoken{"give", "ok"}, spoken{"give", "ok"}, spoken{"give", "ok"}, spoken{"give", "ok"}, spoken{"give", "ok"},
		spoken{"chart 1-", "ok"}, spoken{"give", "no"}, spoken{"show", "1-"}, spoken{"size", "1"},
		spoken{"times 012", "no"}, spoken{"show", "1-"}, spoken{"chart 012 ", "no"}, spoken{"show", "1-"}, spoken{"turned ", "what"}, spoken{"show", "1-"})
}

// TestExecuteTellsGiven takes lines that fail and lines that are none as the last ones.
func TestExecuteTellsGiven(t *testing.T) {
	for count := range 7 {
		for _, c := range []spoken{
			{"show", "012"}, {"rank", "3"}, {"chart x", "no"}, {"chart ", "no"}, {"times 01", "no"}, {"below 0", "not"}, {"tree c", "no"},
			{"same a", "no"}, {"graph c", "no"}, {"pair r", "no"}, {"zzz", "what"}, {"", "what"}, {"give ", "what"}, {"given", "what"},
		} {
			script := strings.Repeat("give\n", count) + c.line + "\n"
			want := strings.Repeat("ok\n", count) + c.answer + "\n"
			checkScript(t, script, fmt.Sprintf("%sgiven %d\n", want, count))
		}
	}
}

// TestExecuteKeepsNothing runs scripts between others, which change charts and give some.
func TestExecuteKeepsNothing(t *testing.T) {
	first := impl.Execute("show\nsize\n")
	for _, script := range scriptsUpTo(100) {
		impl.Execute(script)
	}
	checkScript(t, "show\nsize\n", first)
	checkScript(t, "show\nsize\n", "012\nno\ngiven 0\n")
}
