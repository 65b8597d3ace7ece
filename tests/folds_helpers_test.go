package tests

import (
	"math"
	"slices"
	"strings"
	"sync"
	"testing"

	"loop.example/partialcharts/impl"
)

// The greatest numbers of nodes of a graph, and of words and their letters of which one is made, as the document tells them.
const (
	mostGraphNodes = 40
	mostGiven      = 6
	mostTogether   = 40
)

// The next functions say what the document says of graphs, arrow by arrow, without the program.

// leadOf returns the node to which a letter leads from a node, or -1.
func leadOf(g impl.Graph, node int, letter string) int {
	switch letter {
	case "a":
		return g.A[node]
	case "b":
		return g.B[node]
	case "A":
		return slices.Index(g.A, node)
	}
	return slices.Index(g.B, node)
}

// listsFit reports whether a graph has as many nodes and numbers as there may be, and no letter leads from two nodes to one.
func listsFit(g impl.Graph) bool {
	if g.Nodes < 1 || g.Nodes > mostGraphNodes {
		return false
	}
	for _, list := range [][]int{g.A, g.B} {
		if len(list) != g.Nodes {
			return false
		}
		for i, to := range list {
			if to < -1 || to >= g.Nodes || to >= 0 && slices.Contains(list[:i], to) {
				return false
			}
		}
	}
	return true
}

// orderOf lists the nodes of a graph that are reached from 0, in the order in which they are met first.
func orderOf(g impl.Graph) []int {
	order := []int{0}
	for i := 0; i < len(order); i++ {
		for _, letter := range []string{"A", "B", "a", "b"} {
			if to := leadOf(g, order[i], letter); to >= 0 && !slices.Contains(order, to) {
				order = append(order, to)
			}
		}
	}
	return order
}

// isGraphOf reports whether a graph is as told.
func isGraphOf(g impl.Graph) bool {
	if !listsFit(g) {
		return false
	}
	order := orderOf(g)
	return len(order) == g.Nodes && slices.IsSorted(order)
}

// graphWith returns what is reached from 0 by two lists of numbers, numbered in order.
func graphWith(a, b []int) impl.Graph {
	given := impl.Graph{Nodes: len(a), A: a, B: b}
	order := orderOf(given)
	g := impl.Graph{Nodes: len(order)}
	for _, node := range order {
		g.A = append(g.A, slices.Index(order, a[node]))
		g.B = append(g.B, slices.Index(order, b[node]))
	}
	return g
}

// readOf returns the node that is reached from 0 along a text, or -1.
func readOf(g impl.Graph, text string) int {
	at := 0
	for _, letter := range strings.Split(text, "") {
		if at = leadOf(g, at, letter); at < 0 {
			return -1
		}
	}
	return at
}

// graphOf returns the graph of words: the classes of the nodes of all circles,
// of which two become one where the same letter leads from one class to both, or from both to one class.
func graphOf(words []string) impl.Graph {
	type lead struct {
		letter   string
		from, to int
	}
	var leads []lead
	class := []int{0}
	for _, word := range words {
		at := 0
		for i, letter := range strings.Split(word, "") {
			next := 0
			if i < len(word)-1 {
				next = len(class)
				class = append(class, next)
			}
			if strings.Contains("ab", letter) {
				leads = append(leads, lead{letter, at, next})
			} else {
				leads = append(leads, lead{strings.ToLower(letter), next, at})
			}
			at = next
		}
	}
	makeOne := func(i, j int) {
		for k, other := range class {
			if other == max(i, j) {
				class[k] = min(i, j)
			}
		}
	}
	// Each round but the last one leaves fewer classes, so that there are enough of them.
	for range class {
		for _, e := range leads {
			for _, f := range leads {
				if e.letter == f.letter && class[e.from] == class[f.from] {
					makeOne(class[e.to], class[f.to])
				}
				if e.letter == f.letter && class[e.to] == class[f.to] {
					makeOne(class[e.from], class[f.from])
				}
			}
		}
	}
	a, b := nowhereOf(len(class)), nowhereOf(len(class))
	for _, e := range leads {
		list := a
		if e.letter == "b" {
			list = b
		}
		list[class[e.from]] = class[e.to]
	}
	return graphWith(a, b)
}

// nowhereOf returns a list of so many numbers -1.
func nowhereOf(n int) []int {
	return slices.Repeat([]int{-1}, n)
}

// rankOf counts the arrows of a graph, less its nodes, plus 1.
func rankOf(g impl.Graph) int {
	rank := 1 - g.Nodes
	for node := range g.Nodes {
		for _, letter := range []string{"a", "b"} {
			if leadOf(g, node, letter) >= 0 {
				rank++
			}
		}
	}
	return rank
}

// fullOf reports whether all letters lead somewhere from all nodes.
func fullOf(g impl.Graph) bool {
	return !slices.Contains(g.A, -1) && !slices.Contains(g.B, -1)
}

// baseOf returns the texts of the arrows by which no node is first met.
func baseOf(g impl.Graph) []string {
	type arrow struct {
		from   int
		letter string
	}
	first := map[arrow]bool{}
	paths := map[int]string{0: ""}
	for node := range g.Nodes {
		for _, letter := range []string{"A", "B", "a", "b"} {
			to := leadOf(g, node, letter)
			if _, met := paths[to]; to < 0 || met {
				continue
			}
			paths[to] = paths[node] + letter
			if strings.Contains("ab", letter) {
				first[arrow{node, letter}] = true
			} else {
				first[arrow{to, strings.ToLower(letter)}] = true
			}
		}
	}
	var texts []string
	for node := range g.Nodes {
		for _, letter := range []string{"a", "b"} {
			if to := leadOf(g, node, letter); to >= 0 && !first[arrow{node, letter}] {
				texts = append(texts, reducedOf(paths[node]+letter+inverseOf(paths[to])))
			}
		}
	}
	return texts
}

// areWordsOf reports whether all of some texts are words.
func areWordsOf(texts []string) bool {
	return !slices.ContainsFunc(texts, func(text string) bool { return !isWordOf(text) })
}

// commonOf returns what two graphs have in common, which may have too many nodes:
// the pairs that are reached from both 0, as nodes of a graph of all pairs.
func commonOf(g, h impl.Graph) impl.Graph {
	a, b := pairsOf(g.A, h.A), pairsOf(g.B, h.B)
	return graphWith(a, b)
}

// pairsOf returns where a letter leads from all pairs of nodes, by where it leads from both.
func pairsOf(first, second []int) []int {
	var list []int
	for _, i := range first {
		for _, j := range second {
			if i < 0 || j < 0 {
				list = append(list, -1)
			} else {
				list = append(list, i*len(second)+j)
			}
		}
	}
	return list
}

// sameGraphs reports whether two graphs have the same nodes and the same arrows.
func sameGraphs(g, h impl.Graph) bool {
	return g.Nodes == h.Nodes && slices.Equal(g.A, h.A) && slices.Equal(g.B, h.B)
}

// graphsOf lists all graphs of so many nodes.
func graphsOf(nodes int) []impl.Graph {
	var graphs []impl.Graph
	for _, a := range chartsOf(nodes) {
		for _, b := range chartsOf(nodes) {
			if g := (impl.Graph{Nodes: nodes, A: a, B: b}); isGraphOf(g) {
				graphs = append(graphs, g)
			}
		}
	}
	return graphs
}

// roundBy lists, for so many points, where each one is moved by so many, round and round.
func roundBy(points, by int) []int {
	var list []int
	for i := range points {
		list = append(list, (i+by)%points)
	}
	return list
}

// circleOf returns the graph of a circle of so many letters a.
func circleOf(nodes int) impl.Graph {
	return graphWith(roundBy(nodes, 1), nowhereOf(nodes))
}

// tailed returns the graph of a circle of letters a, with a row of so many letters b that begins at 0.
func tailed(circle, tail int) impl.Graph {
	a := append(roundBy(circle, 1), nowhereOf(tail)...)
	b := nowhereOf(circle + tail)
	at := 0
	for next := circle; next < circle+tail; next++ {
		b[at] = next
		at = next
	}
	return graphWith(a, b)
}

// branched returns the graph of the tree with some nodes, which has no way round.
func branched(nodes []string) impl.Graph {
	a, b := nowhereOf(len(nodes)), nowhereOf(len(nodes))
	for i, word := range nodes {
		for _, to := range []struct {
			list   []int
			letter string
		}{{a, "a"}, {b, "b"}} {
			to.list[i] = slices.Index(nodes, reducedOf(word+to.letter))
		}
	}
	return graphWith(a, b)
}

// scattered returns a graph of so many nodes and arrows whose letters lead here and there.
func scattered(nodes, arrows, seed int) impl.Graph {
	state := seed
	below := func(n int) int {
		state = (state*1103515245 + 12345) % (1 << 31)
		return (state >> 8) % n
	}
	lists := [][]int{nowhereOf(nodes), nowhereOf(nodes)}
	lead := func(i, j int) bool {
		list := lists[below(2)]
		if below(2) == 0 {
			i, j = j, i
		}
		if list[i] >= 0 || slices.Contains(list, j) {
			return false
		}
		list[i] = j
		return true
	}
	for node := 1; node < nodes; node++ {
		for !lead(below(node), node) {
		}
	}
	for count := nodes - 1; count < arrows; {
		if lead(below(nodes), below(nodes)) {
			count++
		}
	}
	return graphWith(lists[0], lists[1])
}

// greatGraphs lists graphs of many nodes: circles, rows, trees, full ones, and some whose letters lead here and there.
func greatGraphs() []impl.Graph {
	graphs := []impl.Graph{
		circleOf(4), circleOf(5), circleOf(6), circleOf(8), circleOf(23), circleOf(24), circleOf(25), circleOf(39), circleOf(40),
		graphWith(nowhereOf(40), roundBy(40, 1)),
		graphWith(roundBy(40, 1), roundBy(40, 0)),
		graphWith(roundBy(40, 1), roundBy(40, 7)),
		graphWith(roundBy(40, 39), roundBy(40, 11)),
		graphWith(roundBy(12, 5), roundBy(12, 1)),
		graphWith(roundBy(23, 1), roundBy(23, 0)),
		tailed(5, 1), tailed(8, 1), tailed(20, 20), tailed(1, 39),
		branched(beginningsOf(strings.Repeat("a", 39))),
		branched(beginningsOf(strings.Repeat("ab", 12))),
		branched(broadNodes(40)),
	}
	for seed := range 8 {
		graphs = append(graphs, scattered(40, 39+seed*5, seed), scattered(12, 12+seed, seed), scattered(6, 5+seed, seed))
	}
	return graphs
}

// someGraphs lists all graphs of few nodes and some of many, made without the program.
var someGraphs = sync.OnceValue(func() []impl.Graph {
	return slices.Concat(graphsOf(1), graphsOf(2), graphsOf(3), greatGraphs())
})

// eachGraph checks something for every one of some graphs.
func eachGraph(t *testing.T, check func(t *testing.T, g impl.Graph)) {
	t.Helper()
	for _, g := range someGraphs() {
		check(t, g)
		if t.Failed() {
			t.Fatalf("with the graph %v", g)
		}
	}
}

// eachGraphPair checks something for pairs of graphs: all of at most two nodes, and the others with some of them.
func eachGraphPair(t *testing.T, check func(t *testing.T, g, h impl.Graph)) {
	t.Helper()
	few := slices.Concat(graphsOf(1), graphsOf(2))
	third := graphsOf(3)
	for i := 0; i < len(third); i += len(third)/40 + 1 {
		few = append(few, third[i])
	}
	few = append(few, greatGraphs()...)
	for _, g := range few {
		for _, h := range few {
			check(t, g, h)
			if t.Failed() {
				t.Fatalf("with the graphs %v and %v", g, h)
			}
		}
	}
}

// givenWords lists lists of words of which graphs are made: no words, empty ones, equal ones, all pairs of short words,
// and long ones, in which letters lead to one node once and again and again.
func givenWords() [][]string {
	a := func(count int) string { return strings.Repeat("a", count) }
	lists := [][]string{
		nil, {}, {""}, {"", ""}, {"", "", "", "", "", ""}, {"", "a", ""},
		{"a", "A", "a", "A", "aa", "AA"},
		{a(12), a(18)}, {a(16), a(24)}, {a(15), a(24)}, {a(13), a(21)}, {"b", a(24), a(15)},
		{a(24), strings.Repeat("A", 16)}, {"baB", "bbabABB", "bbbaBBB"},
		{strings.Repeat("ab", 8), strings.Repeat("ba", 12)},
		{strings.Repeat("ab", 12), strings.Repeat("BA", 8)},
		{"abAB", "aabAAB", "abbABB", "bbaBBA", "aabbAABB"},
		{"aab", "aabb", "aabba", "aabbab", "aabbabA", "aabbabAB"},
		{"aaaaaab", "bbbbbba", "abababa", "AbAbAbA", "aabbaa", "bbaabb"},
		{"aaaaaaB", "aaaaaaB", "aaaaaaB", "aaaaaaB", "aaaaab", "aaaaab"},
	}
	short := wordsUpTo(3)
	for _, first := range short {
		for _, second := range short {
			lists = append(lists, []string{first, second})
		}
	}
	for i, word := range longWords() {
		lists = append(lists, []string{word}, []string{word, short[i%len(short)]}, []string{word, word[:len(word)/2], "", "ab"})
		if len(word) <= 20 {
			lists = append(lists, []string{word, word}, []string{word, inverseOf(word)}, []string{word, word[1:] + word[:1]})
		}
	}
	return lists
}

// eachGiven checks something for every one of some lists of words.
func eachGiven(t *testing.T, check func(t *testing.T, words []string)) {
	t.Helper()
	for _, words := range givenWords() {
		check(t, words)
		if t.Failed() {
			t.Fatalf("with the words %q", words)
		}
	}
}

// noGiven lists lists of words of which no graph is made: too many words, too many letters, and texts that are no words.
func noGiven() [][]string {
	lists := [][]string{
		make([]string, 7),
		make([]string, 100000),
		{"a", "b", "a", "b", "a", "b", "a"},
		{"a", "", "", "", "", "", ""},
		{strings.Repeat("a", 24), strings.Repeat("a", 17)},
		{strings.Repeat("aA", 12), strings.Repeat("bB", 8) + "b"},
		{strings.Repeat("a", 24), strings.Repeat("b", 16), "a"},
		{"aaaaaab", "bbbbbba", "abababa", "AbAbAbA", "aabbaab", "bbaabb"},
		{"aaaaaaB", "aaaaaaB", "aaaaaaB", "aaaaaaB", "aaaaaaB", "aaaaaa"},
		{strings.Repeat("ab", 12), strings.Repeat("ab", 12), "", "", "", ""},
		slices.Repeat([]string{strings.Repeat("b", 24)}, 6),
	}
	for _, text := range noWords() {
		lists = append(lists, []string{text}, []string{"a", text}, []string{text, "ab"}, []string{"", "", "", "", "", text})
	}
	return lists
}

// noGraphs lists graphs that are not as told.
func noGraphs() []impl.Graph {
	long, row := roundBy(41, 1), append(roundBy(41, 1)[:40], -1)
	graphs := []impl.Graph{
		// No nodes, too many, or another number of them than the lists have.
		{},
		{A: []int{-1}, B: []int{-1}},
		{Nodes: 1},
		{Nodes: 1, A: []int{-1}},
		{Nodes: 1, B: []int{0}},
		{Nodes: 1, A: []int{0, -1}, B: []int{0}},
		{Nodes: 1, A: []int{0}, B: []int{0, -1}},
		{Nodes: 1, A: []int{-1, -1}, B: []int{-1, -1}},
		{Nodes: 2, A: []int{1, 0}, B: []int{-1}},
		{Nodes: 2, A: []int{1}, B: []int{0, 1}},
		{Nodes: 2, A: []int{1, 0, 2}, B: []int{0, 1, 2}},
		{Nodes: 2, A: []int{1, 0, -1}, B: []int{-1}},
		{Nodes: 40, A: circleOf(40).A, B: nowhereOf(39)},
		{Nodes: 41, A: circleOf(41).A, B: nowhereOf(41)},
		{Nodes: 41, A: row, B: nowhereOf(41)},
		{Nodes: 40, A: circleOf(41).A, B: nowhereOf(41)},
		{Nodes: 41, A: circleOf(40).A, B: nowhereOf(40)},
		graphWith(long, roundBy(41, 3)),
		branched(broadNodes(41)),
		circleOf(1000),
		{Nodes: -1, A: []int{-1}, B: []int{-1}},
		{Nodes: -1},
		{Nodes: -2, A: []int{1, 0}, B: []int{1, 0}},
		{Nodes: math.MaxInt, A: []int{0}, B: []int{0}},
		{Nodes: math.MinInt, A: []int{0}, B: []int{0}},
		{Nodes: 1<<32 + 1, A: []int{0}, B: []int{0}},
		// A letter leads from two nodes to one.
		{Nodes: 2, A: []int{1, 1}, B: []int{-1, -1}},
		{Nodes: 2, A: []int{-1, -1}, B: []int{1, 1}},
		{Nodes: 2, A: []int{0, 0}, B: []int{1, -1}},
		{Nodes: 2, A: []int{1, 0}, B: []int{0, 0}},
		{Nodes: 3, A: []int{1, 2, 1}, B: []int{-1, -1, -1}},
		{Nodes: 3, A: []int{1, 2, 2}, B: []int{-1, -1, -1}},
		{Nodes: 3, A: []int{1, -1, -1}, B: []int{2, 0, 0}},
		// A node is not reached.
		{Nodes: 2, A: []int{-1, -1}, B: []int{-1, -1}},
		{Nodes: 2, A: []int{0, 1}, B: []int{0, 1}},
		{Nodes: 2, A: []int{0, -1}, B: []int{-1, 1}},
		{Nodes: 3, A: []int{1, 0, -1}, B: []int{-1, -1, -1}},
		{Nodes: 3, A: []int{0, 2, 1}, B: []int{0, 1, 2}},
		{Nodes: 4, A: []int{1, 0, 3, 2}, B: []int{-1, 0, -1, 2}},
		// The nodes are not numbered in order: by where they are met, and by the order of the letters.
		{Nodes: 3, A: []int{2, -1, 1}, B: []int{-1, -1, -1}},
		{Nodes: 3, A: []int{1, 2, 0}, B: []int{-1, -1, -1}},
		{Nodes: 3, A: []int{2, -1, -1}, B: []int{1, -1, -1}},
		{Nodes: 3, A: []int{1, -1, 0}, B: []int{-1, -1, -1}},
		{Nodes: 3, A: []int{-1, -1, 0}, B: []int{-1, 0, -1}},
		{Nodes: 3, A: []int{1, -1, -1}, B: []int{-1, -1, 0}},
		{Nodes: 3, A: []int{-1, -1, 0}, B: []int{1, -1, -1}},
		{Nodes: 3, A: []int{-1, -1, -1}, B: []int{1, -1, 0}},
		{Nodes: 40, A: roundBy(40, 1), B: nowhereOf(40)},
	}
	for _, number := range []int{-2, -3, 1, 2, 64, 1 << 32, math.MaxInt, math.MinInt, math.MinInt + 1} {
		graphs = append(graphs,
			impl.Graph{Nodes: 1, A: []int{number}, B: []int{-1}},
			impl.Graph{Nodes: 1, A: []int{0}, B: []int{number}})
	}
	for _, number := range []int{-2, 2, 3, 63, -1 << 32, math.MaxInt, math.MinInt} {
		graphs = append(graphs,
			impl.Graph{Nodes: 2, A: []int{1, number}, B: []int{-1, -1}},
			impl.Graph{Nodes: 2, A: []int{1, 0}, B: []int{number, 0}})
	}
	return graphs
}

// checkGraph checks that a call has returned a graph and true.
func checkGraph(t *testing.T, name string, got impl.Graph, ok bool, want impl.Graph) {
	t.Helper()
	if !ok || !sameGraphs(got, want) {
		t.Errorf("%s returned %v, %v, and not %v", name, got, ok, want)
	}
}

// checkFailsGraph checks that a call has returned false and the zero graph.
func checkFailsGraph(t *testing.T, name string, got impl.Graph, ok bool) {
	t.Helper()
	if ok || got.Nodes != 0 || len(got.A) != 0 || len(got.B) != 0 {
		t.Errorf("%s returned %v, %v where it fails", name, got, ok)
	}
}

// checkWords checks that a call has returned a list of words and true.
func checkWords(t *testing.T, name string, got []string, ok bool, want []string) {
	t.Helper()
	if !ok || !slices.Equal(got, want) {
		t.Errorf("%s returned %q, %v, and not %q", name, got, ok, want)
	}
}

// checkFailsWords checks that a call has returned false and no words.
func checkFailsWords(t *testing.T, name string, got []string, ok bool) {
	t.Helper()
	if ok || len(got) != 0 {
		t.Errorf("%s returned %q, %v where it fails", name, got, ok)
	}
}
