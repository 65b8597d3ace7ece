package tests

import (
	"slices"
	"strings"
	"testing"

	"loop.example/partialcharts/impl"
)

// graph and rankOfGraph are the program's, where they are to succeed.

func graph(t *testing.T, words []string) impl.Graph {
	t.Helper()
	return must[impl.Graph](t, "GraphOf")(impl.GraphOf(words))
}

func rankOfGraph(t *testing.T, g impl.Graph) int {
	t.Helper()
	return must[int](t, "GraphRank")(impl.GraphRank(g))
}

// counted counts how often what a promise asks for was there.
type counted int

// checkAtLeast checks that a promise was not kept for want of graphs.
func (n counted) checkAtLeast(t *testing.T, least int) {
	t.Helper()
	if int(n) < least {
		t.Errorf("the promise was asked for only %d times", n)
	}
}

// TestPromise49 takes what the program takes for graphs among all lists of a few numbers, and great ones.
func TestPromise49(t *testing.T) {
	var count counted
	check := func(t *testing.T, g impl.Graph) {
		if !impl.GraphIn(g) {
			return
		}
		checkHolds(t, "GraphRound of the empty word", impl.GraphRound(g, ""), true)
		checkHolds(t, "GraphSame of it and itself", impl.GraphSame(g, g), true)
		checkHolds(t, "GraphSame of it and a copy", impl.GraphSame(g, cloneOf(g)), true)
		count++
	}
	for nodes := 1; nodes <= 3; nodes++ {
		numbers := []int{-1, 0, 1, 2}[:nodes+1]
		for _, a := range listsFrom(numbers, nodes) {
			for _, b := range listsFrom(numbers, nodes) {
				check(t, impl.Graph{Nodes: nodes, A: a, B: b})
			}
		}
	}
	count.checkAtLeast(t, len(graphsOf(1))+len(graphsOf(2))+len(graphsOf(3)))
	eachGraph(t, check)
	count.checkAtLeast(t, len(someGraphs()))
}

func TestPromise50(t *testing.T) {
	eachGiven(t, func(t *testing.T, words []string) {
		g := graph(t, words)
		checkHolds(t, "GraphIn", impl.GraphIn(g), true)
		for _, word := range words {
			checkHolds(t, "GraphRound of a word", impl.GraphRound(g, word), true)
			checkHolds(t, "GraphRound of an inverse", impl.GraphRound(g, inverseOf(word)), true)
		}
		opposite := slices.Clone(words)
		slices.Reverse(opposite)
		checkGraph(t, "GraphOf of the opposite order", graph(t, opposite), true, g)
		if rank := rankOfGraph(t, g); rank > len(words) {
			t.Errorf("GraphRank returned %d", rank)
		}
	})
}

func TestPromise51(t *testing.T) {
	words := append(wordsUpTo(4), longWords()...)
	var count counted
	eachGraph(t, func(t *testing.T, g impl.Graph) {
		own, _ := impl.GraphBase(g)
		for _, word := range append(words, own...) {
			if !impl.GraphRound(g, word) {
				continue
			}
			reduced := must[string](t, "TreeReduced")(impl.TreeReduced(word))
			checkHolds(t, "GraphRound of the inverse of "+word, impl.GraphRound(g, inverseOf(word)), true)
			checkHolds(t, "GraphRound of what "+word+" reduces to", impl.GraphRound(g, reduced), true)
			if word != reduced {
				count++
			}
		}
	})
	count.checkAtLeast(t, 10000)
}

func TestPromise52(t *testing.T) {
	var count counted
	check := func(t *testing.T, g impl.Graph) {
		rank := rankOfGraph(t, g)
		if words, ok := impl.GraphBase(g); ok {
			checkNumber(t, "GraphRank", len(words), true, rank)
			count++
		}
	}
	eachGraph(t, check)
	count.checkAtLeast(t, len(someGraphs())*9/10)
	eachGiven(t, func(t *testing.T, words []string) { check(t, graph(t, words)) })
}

func TestPromise53(t *testing.T) {
	var count counted
	eachGraph(t, func(t *testing.T, g impl.Graph) {
		if index, ok := impl.GraphIndex(g); ok {
			checkNumber(t, "GraphRank", rankOfGraph(t, g), true, index+1)
			checkNumber(t, "the number of nodes", g.Nodes, true, index)
			count++
		}
	})
	count.checkAtLeast(t, 20)
}

// hasNoEnd reports whether each node of a graph but 0 has at least two arrows, those that lead to it and from it counted.
func hasNoEnd(g impl.Graph) bool {
	for node := 1; node < g.Nodes; node++ {
		arrows := 0
		for _, letter := range []string{"A", "B", "a", "b"} {
			if leadOf(g, node, letter) >= 0 {
				arrows++
			}
		}
		if arrows < 2 {
			return false
		}
	}
	return true
}

func TestPromise54(t *testing.T) {
	var count counted
	check := func(t *testing.T, g impl.Graph) {
		words, ok := impl.GraphBase(g)
		if !ok {
			return
		}
		for _, word := range words {
			checkHolds(t, "GraphRound of a base word", impl.GraphRound(g, word), true)
		}
		if made, ok := impl.GraphOf(words); ok && hasNoEnd(g) {
			checkGraph(t, "GraphOf of the base", made, ok, g)
			count++
		}
	}
	eachGraph(t, check)
	count.checkAtLeast(t, 200)
	eachGiven(t, func(t *testing.T, words []string) { check(t, graph(t, words)) })
	count.checkAtLeast(t, 5000)
}

func TestPromise55(t *testing.T) {
	var round, stray counted
	eachGraphPair(t, func(t *testing.T, g, h impl.Graph) {
		common, ok := impl.GraphMeet(g, h)
		back, fine := impl.GraphMeet(h, g)
		checkHolds(t, "GraphMeet of both exchanged succeeds as it", fine, ok)
		if !ok {
			return
		}
		checkGraph(t, "GraphMeet of both exchanged", back, fine, common)
		words, _ := impl.GraphBase(g)
		for _, word := range words {
			want := impl.GraphRound(h, word)
			checkHolds(t, "GraphRound in GraphMeet of "+word, impl.GraphRound(common, word), want)
			if want {
				round++
			} else {
				stray++
			}
		}
	})
	round.checkAtLeast(t, 1000)
	stray.checkAtLeast(t, 1000)
}

// TestPromise55OfAllWords asks for all short words and some long ones, and not only for those of a base.
func TestPromise55OfAllWords(t *testing.T) {
	words := append(wordsUpTo(3), longWords()...)
	few := slices.Concat(graphsOf(1), graphsOf(2)[:20], greatGraphs())
	for _, g := range few {
		for _, h := range few {
			common, ok := impl.GraphMeet(g, h)
			if !ok {
				continue
			}
			for _, word := range words {
				want := readOf(g, word) == 0 && readOf(h, word) == 0
				if impl.GraphRound(common, word) != want {
					t.Fatalf("%q goes round in both of %v and %v: %v", word, g, h, want)
				}
			}
		}
	}
}

func TestPromise56(t *testing.T) {
	var count counted
	check := func(t *testing.T, g, h impl.Graph) {
		if !impl.GraphSame(g, h) {
			checkHolds(t, "GraphSame of both exchanged", impl.GraphSame(h, g), false)
			return
		}
		checkHolds(t, "GraphSame of both exchanged", impl.GraphSame(h, g), true)
		common, ok := impl.GraphMeet(g, h)
		checkGraph(t, "GraphMeet of both", common, ok, g)
		count++
	}
	eachGraphPair(t, check)
	eachGraph(t, func(t *testing.T, g impl.Graph) { check(t, g, cloneOf(g)) })
	count.checkAtLeast(t, len(someGraphs()))
}

func TestPromise57(t *testing.T) {
	var count counted
	for _, pair := range samePairs() {
		a, b := pair[0], pair[1]
		if !impl.TreeSame(a, b) {
			continue
		}
		g := graph(t, []string{a})
		checkHolds(t, "GraphRound of "+a, impl.GraphRound(g, a), true)
		checkHolds(t, "GraphRound of "+b, impl.GraphRound(g, b), true)
		if a != b && strings.Trim(a, "aA") != "" {
			count++
		}
		if t.Failed() {
			t.Fatalf("with the words %q and %q", a, b)
		}
	}
	count.checkAtLeast(t, 40)
}
