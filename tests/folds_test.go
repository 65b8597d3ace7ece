package tests

import (
	"fmt"
	"math"
	"slices"
	"strings"
	"testing"

	"loop.example/partialcharts/impl"
)

// lone is the graph of one node with no arrow, loops those with one and with two arrows back to itself.
var (
	lone  = impl.Graph{Nodes: 1, A: []int{-1}, B: []int{-1}}
	loops = []impl.Graph{
		{Nodes: 1, A: []int{0}, B: []int{-1}},
		{Nodes: 1, A: []int{-1}, B: []int{0}},
		{Nodes: 1, A: []int{0}, B: []int{0}},
	}
)

// folded is the graph of aa and ab.
var folded = impl.Graph{Nodes: 2, A: []int{1, 0}, B: []int{-1, 0}}

func TestNodesMax(t *testing.T) {
	checkHolds(t, "NodesMax as the document tells it", impl.NodesMax == mostGraphNodes, true)
}

func TestGraphIn(t *testing.T) {
	for _, g := range append(loops, lone, folded,
		impl.Graph{Nodes: 2, A: []int{1, 0}, B: []int{1, 0}},
		impl.Graph{Nodes: 3, A: []int{2, 0, 1}, B: []int{-1, -1, -1}},
		// The letters are asked in the order A, B, a, b.
		impl.Graph{Nodes: 5, A: []int{3, 0, -1, -1, -1}, B: []int{4, -1, 0, -1, -1}},
		circleOf(40),
	) {
		checkHolds(t, fmt.Sprintf("GraphIn of %v", g), impl.GraphIn(g), true)
	}
	eachGraph(t, func(t *testing.T, g impl.Graph) {
		checkHolds(t, "isGraphOf", isGraphOf(g), true)
		checkHolds(t, "GraphIn", impl.GraphIn(g), true)
	})
	for _, g := range noGraphs() {
		checkHolds(t, fmt.Sprintf("isGraphOf of %v", g), isGraphOf(g), false)
		checkHolds(t, fmt.Sprintf("GraphIn of %v", g), impl.GraphIn(g), false)
	}
}

// checkGraphIn checks what GraphIn tells of numbers that may be no graph.
func checkGraphIn(t *testing.T, g impl.Graph) {
	t.Helper()
	if got := impl.GraphIn(g); got != isGraphOf(g) {
		t.Errorf("GraphIn of %v returned %v", g, got)
	}
}

// TestGraphInTellsAllLists asks for all lists of a few numbers, with each number of nodes around their length.
func TestGraphInTellsAllLists(t *testing.T) {
	for length := range 4 {
		numbers := []int{-2, -1}
		for number := range length {
			numbers = append(numbers, number)
		}
		if length < 3 {
			numbers = append(numbers, length)
		}
		lists := listsFrom(numbers, length)
		for _, a := range lists {
			for _, b := range lists {
				for nodes := length - 1; nodes <= length+1; nodes++ {
					checkGraphIn(t, impl.Graph{Nodes: nodes, A: a, B: b})
				}
			}
		}
	}
}

// listsFrom lists all lists of so many of some numbers.
func listsFrom(numbers []int, length int) [][]int {
	lists := [][]int{{}}
	for range length {
		var longer [][]int
		for _, list := range lists {
			for _, number := range numbers {
				longer = append(longer, append(slices.Clone(list), number))
			}
		}
		lists = longer
	}
	return lists
}

// TestGraphInByOneNumber changes single numbers of great graphs, and leaves out, adds and exchanges some.
func TestGraphInByOneNumber(t *testing.T) {
	for _, g := range greatGraphs() {
		changes := []int{-2, -1, 0, 1, g.Nodes / 2, g.Nodes - 1, g.Nodes, math.MaxInt, math.MinInt}
		for i := range g.Nodes {
			for _, number := range changes {
				checkGraphIn(t, impl.Graph{Nodes: g.Nodes, A: withNumber(g.A, i, number), B: g.B})
				checkGraphIn(t, impl.Graph{Nodes: g.Nodes, A: g.A, B: withNumber(g.B, i, number)})
			}
			checkGraphIn(t, impl.Graph{Nodes: g.Nodes, A: withExchanged(g.A, i, g.Nodes-1), B: withExchanged(g.B, i, g.Nodes-1)})
		}
		for _, nodes := range []int{g.Nodes - 1, g.Nodes + 1, -g.Nodes, 0} {
			checkGraphIn(t, impl.Graph{Nodes: nodes, A: g.A, B: g.B})
		}
		checkGraphIn(t, impl.Graph{Nodes: g.Nodes, A: g.A[1:], B: g.B})
		checkGraphIn(t, impl.Graph{Nodes: g.Nodes, A: g.A, B: append(slices.Clone(g.B), -1)})
	}
}

// withNumber returns a list with another number in one place.
func withNumber(list []int, i, number int) []int {
	list = slices.Clone(list)
	list[i] = number
	return list
}

// withExchanged returns where a letter leads if two nodes exchange their numbers.
func withExchanged(list []int, i, j int) []int {
	list = slices.Clone(list)
	list[i], list[j] = list[j], list[i]
	for k, to := range list {
		switch to {
		case i:
			list[k] = j
		case j:
			list[k] = i
		}
	}
	return list
}

func TestGraphInAtTheLimit(t *testing.T) {
	for nodes := 38; nodes <= 42; nodes++ {
		for _, g := range []impl.Graph{circleOf(nodes), branched(broadNodes(nodes)), graphWith(roundBy(nodes, 1), roundBy(nodes, 3))} {
			checkHolds(t, fmt.Sprintf("GraphIn of %d nodes", nodes), impl.GraphIn(g), nodes <= 40)
		}
	}
}

func TestGraphOf(t *testing.T) {
	cases := []struct {
		words []string
		want  impl.Graph
	}{
		{nil, lone},
		{[]string{""}, lone},
		{[]string{"", "", "", "", "", ""}, lone},
		{[]string{"a"}, loops[0]},
		{[]string{"A"}, loops[0]},
		{[]string{"b", "", "b"}, loops[1]},
		{[]string{"a", "b"}, loops[2]},
		{[]string{"a", "abA"}, loops[2]},
		{[]string{"aa", "ab"}, folded},
		{[]string{"ab"}, impl.Graph{Nodes: 2, A: []int{1, -1}, B: []int{-1, 0}}},
		{[]string{"ab", "ab", "BA"}, impl.Graph{Nodes: 2, A: []int{1, -1}, B: []int{-1, 0}}},
		{[]string{"aA"}, impl.Graph{Nodes: 2, A: []int{1, -1}, B: []int{-1, -1}}},
		{[]string{"Aa"}, impl.Graph{Nodes: 2, A: []int{-1, 0}, B: []int{-1, -1}}},
		{[]string{"aA", "bB"}, impl.Graph{Nodes: 3, A: []int{1, -1, -1}, B: []int{2, -1, -1}}},
		{[]string{"abBA"}, impl.Graph{Nodes: 3, A: []int{1, -1, -1}, B: []int{-1, 2, -1}}},
		{[]string{"abAB"}, impl.Graph{Nodes: 4, A: []int{1, -1, 3, -1}, B: []int{2, 3, -1, -1}}},
		// A letter leads from two nodes to one only.
		{[]string{"ab", "bb"}, impl.Graph{Nodes: 2, A: []int{1, -1}, B: []int{1, 0}}},
		{[]string{"aab", "bab"}, impl.Graph{Nodes: 3, A: []int{2, -1, 1}, B: []int{2, 0, -1}}},
		// One fold leads to the next one.
		{[]string{"a", "ab"}, loops[2]},
		{[]string{"aa", "aab"}, impl.Graph{Nodes: 2, A: []int{1, 0}, B: []int{0, -1}}},
		{[]string{"aaa", "aa"}, loops[0]},
		{[]string{strings.Repeat("a", 12), strings.Repeat("A", 18)}, circleOf(6)},
		{[]string{strings.Repeat("b", 24), strings.Repeat("b", 15), "a"}, impl.Graph{Nodes: 3, A: []int{0, -1, -1}, B: []int{2, 0, 1}}},
		{[]string{strings.Repeat("a", 24), strings.Repeat("a", 16)}, circleOf(8)},
	}
	for _, c := range cases {
		got, ok := impl.GraphOf(c.words)
		checkGraph(t, fmt.Sprintf("GraphOf of %q", c.words), got, ok, c.want)
	}
	eachGiven(t, func(t *testing.T, words []string) {
		got, ok := impl.GraphOf(words)
		checkGraph(t, "GraphOf", got, ok, graphOf(words))
	})
}

// TestGraphOfMeansItsWords makes words of the given ones and their inverses: of the reduced words, just these go round.
func TestGraphOfMeansItsWords(t *testing.T) {
	var short []string
	for _, word := range wordsUpTo(2) {
		if reducedOf(word) == word {
			short = append(short, word)
		}
	}
	for i, first := range short {
		for _, second := range short[:i] {
			given := []string{first, second}
			g := must[impl.Graph](t, "GraphOf")(impl.GraphOf(given))
			made := madeOf(append(given, inverseOf(first), inverseOf(second)), 6)
			for _, word := range wordsUpTo(4) {
				if reducedOf(word) == word {
					checkHolds(t, fmt.Sprintf("GraphRound in the graph of %q of %q", given, word), impl.GraphRound(g, word), made[word])
				}
			}
		}
	}
}

// madeOf returns what some texts behind each other reduce to, as long as it has at most so many letters on the way.
func madeOf(texts []string, most int) map[string]bool {
	made := map[string]bool{"": true}
	all := []string{""}
	for i := 0; i < len(all); i++ {
		for _, text := range texts {
			word := reducedOf(all[i] + text)
			if len(word) <= most && !made[word] {
				made[word] = true
				all = append(all, word)
			}
		}
	}
	return made
}

// TestGraphOfAtTheLimits has as many words and letters as there may be, and more.
func TestGraphOfAtTheLimits(t *testing.T) {
	for count := range 9 {
		words := slices.Repeat([]string{"ab"}, count)
		got, ok := impl.GraphOf(words)
		if count <= mostGiven {
			checkGraph(t, fmt.Sprintf("GraphOf of %d words", count), got, ok, graphOf(words))
		} else {
			checkFailsGraph(t, fmt.Sprintf("GraphOf of %d words", count), got, ok)
		}
	}
	for last := range 9 {
		for _, words := range [][]string{
			{"aabbaab", "bbABabb", "abABBAb", "AAAAAAA", "bBbBbBb", strings.Repeat("B", last)},
			{strings.Repeat("aab", 7), strings.Repeat("Ab", 7), strings.Repeat("b", last)},
			{strings.Repeat("a", 17), strings.Repeat("b", 16+last)},
		} {
			letters := len(strings.Join(words, ""))
			got, ok := impl.GraphOf(words)
			if letters <= mostTogether {
				checkGraph(t, fmt.Sprintf("GraphOf of %q", words), got, ok, graphOf(words))
			} else {
				checkFailsGraph(t, fmt.Sprintf("GraphOf of %q", words), got, ok)
			}
		}
	}
	for _, words := range noGiven() {
		got, ok := impl.GraphOf(words)
		checkFailsGraph(t, fmt.Sprintf("GraphOf of %.200q", words), got, ok)
	}
}

func TestGraphRound(t *testing.T) {
	cases := []struct {
		g    impl.Graph
		word string
		want bool
	}{
		{lone, "", true},
		{lone, "a", false},
		{lone, "aA", false},
		{loops[0], "aaA", true},
		{loops[0], "aab", false},
		{loops[0], "aabB", false},
		{loops[2], "abbA", true},
		{folded, "ab", true},
		{folded, "BA", true},
		{folded, "aB", false},
		{folded, "ba", false},
		{folded, "abBb", true},
		{folded, "a", false},
		{folded, "AA", true},
		{circleOf(24), strings.Repeat("a", 24), true},
		{circleOf(24), strings.Repeat("A", 24), true},
		{circleOf(23), strings.Repeat("a", 24), false},
		{circleOf(40), strings.Repeat("aA", 12), true},
		{branched([]string{"", "a"}), "aA", true},
		{branched([]string{"", "a"}), "Aa", false},
	}
	for _, c := range cases {
		checkHolds(t, fmt.Sprintf("GraphRound in %v of %q", c.g, c.word), impl.GraphRound(c.g, c.word), c.want)
	}
	words := append(wordsUpTo(3), longWords()...)
	eachGraph(t, func(t *testing.T, g impl.Graph) {
		for _, word := range append(words, baseOf(g)...) {
			want := isWordOf(word) && readOf(g, word) == 0
			checkHolds(t, fmt.Sprintf("GraphRound of %q", word), impl.GraphRound(g, word), want)
		}
	})
}

func TestGraphRank(t *testing.T) {
	cases := []struct {
		g    impl.Graph
		want int
	}{
		{lone, 0}, {loops[0], 1}, {loops[1], 1}, {loops[2], 2}, {folded, 2},
		{circleOf(40), 1}, {branched(broadNodes(40)), 0}, {graphWith(roundBy(40, 1), roundBy(40, 7)), 41},
	}
	for _, c := range cases {
		got, ok := impl.GraphRank(c.g)
		checkNumber(t, fmt.Sprintf("GraphRank of %v", c.g), got, ok, c.want)
	}
	eachGraph(t, func(t *testing.T, g impl.Graph) {
		got, ok := impl.GraphRank(g)
		checkNumber(t, "GraphRank", got, ok, rankOf(g))
	})
}

func TestGraphIndex(t *testing.T) {
	got, ok := impl.GraphIndex(loops[2])
	checkNumber(t, "GraphIndex of one node with two arrows", got, ok, 1)
	got, ok = impl.GraphIndex(impl.Graph{Nodes: 2, A: []int{1, 0}, B: []int{0, 1}})
	checkNumber(t, "GraphIndex of two nodes", got, ok, 2)
	got, ok = impl.GraphIndex(graphWith(roundBy(40, 1), roundBy(40, 7)))
	checkNumber(t, "GraphIndex of 40 nodes", got, ok, 40)
	for _, g := range []impl.Graph{lone, loops[0], loops[1], folded, circleOf(40)} {
		got, ok = impl.GraphIndex(g)
		checkFailsNumber(t, fmt.Sprintf("GraphIndex of %v", g), got, ok)
	}
	full := 0
	eachGraph(t, func(t *testing.T, g impl.Graph) {
		got, ok := impl.GraphIndex(g)
		if fullOf(g) {
			checkNumber(t, "GraphIndex", got, ok, g.Nodes)
			full++
		} else {
			checkFailsNumber(t, "GraphIndex", got, ok)
		}
	})
	if full < 10 {
		t.Errorf("only %d graphs are full", full)
	}
}

func TestGraphBase(t *testing.T) {
	cases := []struct {
		g    impl.Graph
		want []string
	}{
		{lone, nil},
		{loops[0], []string{"a"}},
		{loops[1], []string{"b"}},
		{loops[2], []string{"a", "b"}},
		// The node 1 is first met by A, and so by the arrow from 1 to 0.
		{folded, []string{"aa", "Ab"}},
		{circleOf(3), []string{"aaa"}},
		{circleOf(4), []string{"aaaa"}},
		{impl.Graph{Nodes: 2, A: []int{1, 0}, B: []int{1, 0}}, []string{"aa", "ba", "Ab"}},
		{impl.Graph{Nodes: 2, A: []int{1, 0}, B: []int{0, 1}}, []string{"aa", "b", "Aba"}},
		// The node 3 is first met from 1.
		{graphOf([]string{"abAB"}), []string{"baBA"}},
		{graphOf([]string{"abA"}), []string{"abA"}},
		// What leads only there and back is in no word.
		{branched([]string{"", "a", "ab"}), nil},
		{graphOf([]string{"aA", "bb"}), []string{"bb"}},
		{branched(broadNodes(40)), nil},
	}
	for _, c := range cases {
		got, ok := impl.GraphBase(c.g)
		checkWords(t, fmt.Sprintf("GraphBase of %v", c.g), got, ok, c.want)
	}
	failed := 0
	eachGraph(t, func(t *testing.T, g impl.Graph) {
		got, ok := impl.GraphBase(g)
		if want := baseOf(g); areWordsOf(want) {
			checkWords(t, "GraphBase", got, ok, want)
		} else {
			checkFailsWords(t, "GraphBase", got, ok)
			failed++
		}
	})
	if failed < 4 {
		t.Errorf("GraphBase failed only %d times", failed)
	}
}

// TestGraphBaseAtTheLimit has base words of just as many letters as a word may have, and of more.
func TestGraphBaseAtTheLimit(t *testing.T) {
	for nodes := 2; nodes <= 40; nodes++ {
		got, ok := impl.GraphBase(circleOf(nodes))
		if nodes <= mostLetters {
			checkWords(t, fmt.Sprintf("GraphBase of a circle of %d", nodes), got, ok, []string{strings.Repeat("a", nodes)})
		} else {
			checkFailsWords(t, fmt.Sprintf("GraphBase of a circle of %d", nodes), got, ok)
		}
	}
	// A loop of one letter at the end of a row of so many, where the path and its inverse lead there and back.
	for row := range 40 {
		g := graphWith(append(roundBy(row+1, 1)[:row], -1), append(nowhereOf(row), row))
		got, ok := impl.GraphBase(g)
		if row*2+1 <= mostLetters {
			checkWords(t, fmt.Sprintf("GraphBase of a row of %d", row), got, ok, []string{strings.Repeat("a", row) + "b" + strings.Repeat("A", row)})
		} else {
			checkFailsWords(t, fmt.Sprintf("GraphBase of a row of %d", row), got, ok)
		}
	}
	// A way there on one row and back on another one.
	for ahead := range 14 {
		for behind := range 14 {
			given := strings.Repeat("a", ahead) + "b" + strings.Repeat("A", behind) + "B"
			g := graphOf([]string{given})
			got, ok := impl.GraphBase(g)
			if want := baseOf(g); areWordsOf(want) {
				checkWords(t, fmt.Sprintf("GraphBase of the graph of %q", given), got, ok, want)
			} else {
				checkFailsWords(t, fmt.Sprintf("GraphBase of the graph of %q", given), got, ok)
			}
		}
	}
}

func TestGraphMeet(t *testing.T) {
	cases := []struct {
		g, h, want impl.Graph
	}{
		{lone, lone, lone},
		{lone, loops[2], lone},
		{loops[0], loops[1], lone},
		{loops[0], loops[2], loops[0]},
		{loops[2], folded, folded},
		{folded, folded, folded},
		{circleOf(4), circleOf(6), circleOf(12)},
		{circleOf(2), impl.Graph{Nodes: 2, A: []int{0, 1}, B: []int{1, 0}}, circleOf(2)},
		// What both have in common leads somewhere, but not round.
		{graphOf([]string{"ab"}), graphOf([]string{"aB"}), branched([]string{"", "a"})},
		{graphOf([]string{"aab"}), graphOf([]string{"aaB"}), branched([]string{"", "a", "aa"})},
		{branched([]string{"", "a", "ab"}), branched([]string{"", "a", "b"}), branched([]string{"", "a"})},
		{branched([]string{"", "A"}), branched([]string{"", "a"}), lone},
	}
	for _, c := range cases {
		got, ok := impl.GraphMeet(c.g, c.h)
		checkGraph(t, fmt.Sprintf("GraphMeet of %v and %v", c.g, c.h), got, ok, c.want)
	}
	failed := 0
	eachGraphPair(t, func(t *testing.T, g, h impl.Graph) {
		got, ok := impl.GraphMeet(g, h)
		if want := commonOf(g, h); want.Nodes <= mostGraphNodes {
			checkGraph(t, "GraphMeet", got, ok, want)
		} else {
			checkFailsGraph(t, "GraphMeet", got, ok)
			failed++
		}
	})
	if failed < 100 {
		t.Errorf("GraphMeet failed only %d times", failed)
	}
}

// TestGraphMeetAtTheLimit has graphs that have just as many nodes in common as there may be, and more.
func TestGraphMeetAtTheLimit(t *testing.T) {
	cases := []struct {
		g, h  impl.Graph
		nodes int
	}{
		{circleOf(5), circleOf(8), 40},
		{circleOf(40), circleOf(20), 40},
		{circleOf(3), circleOf(13), 39},
		{circleOf(6), circleOf(7), 42},
		{circleOf(39), circleOf(40), 1560},
		{tailed(3, 1), tailed(13, 1), 40},
		{tailed(3, 2), tailed(13, 1), 40},
		{tailed(3, 2), tailed(13, 2), 41},
		{tailed(5, 1), tailed(8, 1), 41},
		{tailed(5, 0), tailed(8, 1), 40},
		{graphWith(roundBy(40, 1), roundBy(40, 0)), circleOf(40), 40},
		{graphWith(roundBy(40, 1), roundBy(40, 7)), graphWith(roundBy(40, 1), roundBy(40, 7)), 40},
	}
	for _, c := range cases {
		want := commonOf(c.g, c.h)
		if want.Nodes != c.nodes {
			t.Errorf("%v and %v have %d nodes in common", c.g, c.h, want.Nodes)
		}
		got, ok := impl.GraphMeet(c.g, c.h)
		back, fine := impl.GraphMeet(c.h, c.g)
		if c.nodes <= mostGraphNodes {
			checkGraph(t, "GraphMeet", got, ok, want)
			checkGraph(t, "GraphMeet", back, fine, want)
		} else {
			checkFailsGraph(t, fmt.Sprintf("GraphMeet with %d nodes", c.nodes), got, ok)
			checkFailsGraph(t, fmt.Sprintf("GraphMeet with %d nodes", c.nodes), back, fine)
		}
	}
}

func TestGraphSame(t *testing.T) {
	checkHolds(t, "GraphSame of the same words", impl.GraphSame(graphOf([]string{"aa", "ab"}), folded), true)
	checkHolds(t, "GraphSame of other loops", impl.GraphSame(loops[0], loops[1]), false)
	checkHolds(t, "GraphSame of fewer nodes", impl.GraphSame(circleOf(39), circleOf(40)), false)
	checkHolds(t, "GraphSame of another b", impl.GraphSame(circleOf(2), folded), false)
	checkHolds(t, "GraphSame of nil", impl.GraphSame(impl.Graph{}, impl.Graph{}), false)
	eachGraphPair(t, func(t *testing.T, g, h impl.Graph) {
		checkHolds(t, "GraphSame", impl.GraphSame(g, h), sameGraphs(g, h))
	})
}

func TestGraphsThatAreNone(t *testing.T) {
	for _, bad := range noGraphs() {
		name := fmt.Sprintf(" of %.300v", bad)
		for _, word := range []string{"", "a", "aA", "ab"} {
			checkHolds(t, "GraphRound"+name, impl.GraphRound(bad, word), false)
		}
		rank, ok := impl.GraphRank(bad)
		checkFailsNumber(t, "GraphRank"+name, rank, ok)
		index, ok := impl.GraphIndex(bad)
		checkFailsNumber(t, "GraphIndex"+name, index, ok)
		words, ok := impl.GraphBase(bad)
		checkFailsWords(t, "GraphBase"+name, words, ok)
		for _, other := range append(loops, bad, lone, folded, circleOf(40)) {
			common, ok := impl.GraphMeet(bad, other)
			checkFailsGraph(t, "GraphMeet"+name, common, ok)
			common, ok = impl.GraphMeet(other, bad)
			checkFailsGraph(t, "GraphMeet"+name, common, ok)
			checkHolds(t, "GraphSame"+name, impl.GraphSame(bad, other), false)
			checkHolds(t, "GraphSame"+name, impl.GraphSame(other, bad), false)
		}
	}
}

func TestGraphsOfTextsThatAreNoWords(t *testing.T) {
	for _, text := range noWords() {
		for _, g := range append(loops, lone, folded, circleOf(25), graphWith(roundBy(40, 1), roundBy(40, 7))) {
			checkHolds(t, fmt.Sprintf("GraphRound in %v of %.100q", g, text), impl.GraphRound(g, text), false)
		}
	}
	for i := range 256 {
		for _, text := range []string{string([]byte{byte(i)}), string([]byte{'a', byte(i)}), string([]byte{byte(i), 'b'})} {
			checkHolds(t, fmt.Sprintf("GraphRound of %q", text), impl.GraphRound(loops[2], text), isWordOf(text))
			got, ok := impl.GraphOf([]string{text})
			if isWordOf(text) {
				checkGraph(t, fmt.Sprintf("GraphOf of %q", text), got, ok, graphOf([]string{text}))
			} else {
				checkFailsGraph(t, fmt.Sprintf("GraphOf of %q", text), got, ok)
			}
		}
	}
}

// cloneOf copies a graph.
func cloneOf(g impl.Graph) impl.Graph {
	return impl.Graph{Nodes: g.Nodes, A: slices.Clone(g.A), B: slices.Clone(g.B)}
}

// TestGraphsShareNoMemory fills the lists of the results, one after the other and with all of their capacity,
// and looks at the other list, at the arguments and at the next results.
func TestGraphsShareNoMemory(t *testing.T) {
	calls := []struct {
		name string
		call func(g impl.Graph) impl.Graph
	}{
		{"GraphOf", func(g impl.Graph) impl.Graph {
			words, _ := impl.GraphBase(g)
			of, _ := impl.GraphOf(words)
			return of
		}},
		{"GraphMeet", func(g impl.Graph) impl.Graph { common, _ := impl.GraphMeet(g, g); return common }},
		{"GraphMeet by all", func(g impl.Graph) impl.Graph { common, _ := impl.GraphMeet(g, loops[2]); return common }},
		{"GraphMeet of all", func(g impl.Graph) impl.Graph { common, _ := impl.GraphMeet(loops[2], g); return common }},
		{"questions", func(g impl.Graph) impl.Graph {
			impl.GraphIn(g)
			impl.GraphRound(g, "abAB")
			impl.GraphRank(g)
			impl.GraphIndex(g)
			impl.GraphBase(g)
			impl.GraphSame(g, g)
			return impl.Graph{}
		}},
	}
	for _, c := range calls {
		for _, g := range append(noGraphs(), someGraphs()...) {
			memory := withMore([][]int{g.A, g.B})
			before := memoryOf(memory)
			g.A, g.B = memory[0], memory[1]
			first := c.call(g)
			kept := cloneOf(first)
			for i := range first.A[:cap(first.A)] {
				first.A[:cap(first.A)][i] = 7
			}
			if !slices.Equal(first.B, kept.B) {
				t.Errorf("%s returned lists that share memory: %v and not %v", c.name, first.B, kept.B)
			}
			first.A = kept.A
			for i := range first.B[:cap(first.B)] {
				first.B[:cap(first.B)][i] = 8
			}
			checkUnchanged(t, c.name, memoryOf(memory), before)
			if second := c.call(g); !sameGraphs(second, kept) {
				t.Errorf("%s returned %v and then %v", c.name, kept, second)
			}
		}
	}
}

// TestGraphListsGrowApart fills each list of a result and lets it grow, and looks at the other one.
func TestGraphListsGrowApart(t *testing.T) {
	for _, words := range [][]string{nil, {"a"}, {"aa", "ab"}, {"abAB", "aab"}} {
		first := must[impl.Graph](t, "GraphOf")(impl.GraphOf(words))
		second := cloneOf(first)
		_ = append(first.A, 5, 5, 5)
		checkList(t, "B where A grows", first.B, true, second.B)
		_ = append(first.B, 6, 6, 6)
		checkList(t, "A where B grows", first.A, true, second.A)
		for i := range first.B[:cap(first.B)] {
			first.B[:cap(first.B)][i] = 8
		}
		checkList(t, "A where B is filled", first.A, true, second.A)
	}
}

// TestGraphWordsStay asks twice for the graph of words, which are to be as they were, and for a base.
func TestGraphWordsStay(t *testing.T) {
	for _, words := range append(givenWords()[:60], noGiven()...) {
		memory := append(slices.Clone(words), "spare", "spare")
		before := slices.Clone(memory)
		impl.GraphOf(memory[:len(words)])
		if !slices.Equal(memory, before) {
			t.Errorf("GraphOf changed its argument: %.200q and not %.200q", memory, before)
		}
	}
	for _, g := range someGraphs() {
		first, _ := impl.GraphBase(g)
		kept := slices.Clone(first)
		for i := range first[:cap(first)] {
			first[:cap(first)][i] = "filled"
		}
		if second, _ := impl.GraphBase(g); !slices.Equal(second, kept) {
			t.Errorf("GraphBase returned %q and then %q", kept, second)
		}
	}
}
