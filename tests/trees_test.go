package tests

import (
	"fmt"
	"slices"
	"strings"
	"testing"

	"loop.example/partialcharts/impl"
)

// single is the tree of one node.
var single = impl.Tree{Nodes: []string{""}}

func TestTreeIn(t *testing.T) {
	for _, tree := range []impl.Tree{
		single,
		{Nodes: []string{"", "a"}, End: "a"},
		{Nodes: []string{"", "A", "B", "a", "b"}, End: "B"},
		{Nodes: []string{"", "b", "bA", "ba", "bab"}, End: "ba"},
	} {
		checkHolds(t, fmt.Sprintf("TreeIn of %q", tree), impl.TreeIn(tree), true)
	}
	eachTree(t, func(t *testing.T, tree impl.Tree) {
		checkHolds(t, "isTreeOf", isTreeOf(tree), true)
		checkHolds(t, "TreeIn", impl.TreeIn(tree), true)
	})
	for _, tree := range noTrees() {
		checkHolds(t, "isTreeOf", isTreeOf(tree), false)
		checkHolds(t, fmt.Sprintf("TreeIn of %q", tree), impl.TreeIn(tree), false)
	}
}

func TestTreeInAtTheLimits(t *testing.T) {
	for count := 58; count <= 62; count++ {
		nodes := broadNodes(count)
		checkHolds(t, fmt.Sprintf("TreeIn of %d nodes", count), impl.TreeIn(treeWith(nodes, nodes[count-1])), count <= 60)
	}
	for length := 22; length <= 26; length++ {
		tree := rowOf(length, 3)
		checkHolds(t, fmt.Sprintf("TreeIn with %d letters", length), impl.TreeIn(tree), length <= 24)
		tree.End = ""
		checkHolds(t, fmt.Sprintf("TreeIn with %d letters", length), impl.TreeIn(tree), length <= 24)
	}
}

// TestTreeInByOneNode leaves out, doubles, exchanges, lengthens and changes single nodes, and changes the end.
func TestTreeInByOneNode(t *testing.T) {
	eachTree(t, func(t *testing.T, tree impl.Tree) {
		for i, word := range tree.Nodes {
			for _, nodes := range [][]string{
				slices.Delete(slices.Clone(tree.Nodes), i, i+1),
				slices.Insert(slices.Clone(tree.Nodes), i, word),
				append(slices.Clone(tree.Nodes), word),
				exchanged(tree.Nodes, i, (i+1)%len(tree.Nodes)),
				changedAt(tree.Nodes, i, word+"a"),
				changedAt(tree.Nodes, i, "B"+word),
				changedAt(tree.Nodes, i, word+"aA"),
				changedAt(tree.Nodes, i, strings.ToUpper(word)),
				changedAt(tree.Nodes, i, word+"c"),
				changedAt(tree.Nodes, i, ""),
			} {
				checkTreeIn(t, impl.Tree{Nodes: nodes, End: tree.End})
			}
			for _, end := range []string{word, word + "b", word + "bB", "a" + word, inverseOf(word), word + "\x00"} {
				checkTreeIn(t, impl.Tree{Nodes: tree.Nodes, End: end})
			}
		}
	})
}

func checkTreeIn(t *testing.T, tree impl.Tree) {
	t.Helper()
	checkHolds(t, fmt.Sprintf("TreeIn of %q", tree), impl.TreeIn(tree), isTreeOf(tree))
}

// exchanged returns a list with two places exchanged.
func exchanged(list []string, i, j int) []string {
	list = slices.Clone(list)
	list[i], list[j] = list[j], list[i]
	return list
}

// changedAt returns a list with another text in one place.
func changedAt(list []string, i int, text string) []string {
	list = slices.Clone(list)
	list[i] = text
	return list
}

// TestTreeInOfSomeNodes asks for all lists of a few texts, and all ends.
func TestTreeInOfSomeNodes(t *testing.T) {
	texts := []string{"", "A", "a", "ab", "aA", "aAb", "ba"}
	lists := [][]string{nil}
	for range 4 {
		var longer [][]string
		for _, list := range lists {
			for _, end := range texts {
				checkTreeIn(t, impl.Tree{Nodes: list, End: end})
				longer = append(longer, append(slices.Clone(list), end))
			}
		}
		lists = longer
	}
}

func TestTreeOf(t *testing.T) {
	cases := []struct {
		word string
		want impl.Tree
	}{
		{"", single},
		{"a", impl.Tree{Nodes: []string{"", "a"}, End: "a"}},
		{"B", impl.Tree{Nodes: []string{"", "B"}, End: "B"}},
		{"aA", impl.Tree{Nodes: []string{"", "a"}, End: ""}},
		{"Aa", impl.Tree{Nodes: []string{"", "A"}, End: ""}},
		{"aAb", impl.Tree{Nodes: []string{"", "a", "b"}, End: "b"}},
		{"bBaA", impl.Tree{Nodes: []string{"", "a", "b"}, End: ""}},
		{"abBA", impl.Tree{Nodes: []string{"", "a", "ab"}, End: ""}},
		{"abB", impl.Tree{Nodes: []string{"", "a", "ab"}, End: "a"}},
		{"abBb", impl.Tree{Nodes: []string{"", "a", "ab"}, End: "ab"}},
		{"baABAbBaBb", impl.Tree{Nodes: []string{"", "A", "B", "b", "Ab", "ba"}, End: ""}},
		{strings.Repeat("bB", 12), impl.Tree{Nodes: []string{"", "b"}, End: ""}},
		{strings.Repeat("A", 24), impl.Tree{Nodes: beginningsOf(strings.Repeat("A", 24)), End: strings.Repeat("A", 24)}},
	}
	for _, c := range cases {
		got, ok := impl.TreeOf(c.word)
		checkTree(t, fmt.Sprintf("TreeOf of %q", c.word), got, ok, c.want)
	}
	eachWord(t, func(t *testing.T, word string) {
		got, ok := impl.TreeOf(word)
		checkTree(t, "TreeOf", got, ok, treeOf(word))
	})
}

func TestTreeTimes(t *testing.T) {
	cases := []struct {
		first, second, want impl.Tree
	}{
		{single, single, single},
		{single, treeOf("ab"), treeOf("ab")},
		{treeOf("ab"), single, treeOf("ab")},
		{treeOf("a"), treeOf("b"), treeOf("ab")},
		{treeOf("a"), treeOf("A"), treeOf("aA")},
		{treeOf("ab"), treeOf("Ba"), impl.Tree{Nodes: []string{"", "a", "aa", "ab"}, End: "aa"}},
		{treeOf("aA"), treeOf("bB"), impl.Tree{Nodes: []string{"", "a", "b"}, End: ""}},
		{treeOf("abB"), treeOf("BA"), impl.Tree{Nodes: []string{"", "a", "aB", "ab", "aBA"}, End: "aBA"}},
	}
	for _, c := range cases {
		got, ok := impl.TreeTimes(c.first, c.second)
		checkTree(t, fmt.Sprintf("TreeTimes of %q and %q", c.first, c.second), got, ok, c.want)
	}
	failed := 0
	eachTreePair(t, func(t *testing.T, first, second impl.Tree) {
		got, ok := impl.TreeTimes(first, second)
		checkTreeIfTold(t, "TreeTimes", got, ok, productOf(first, second))
		if !ok {
			failed++
		}
	})
	if failed < 100 {
		t.Errorf("TreeTimes failed only %d times", failed)
	}
}

// TestTreeTimesOfLongWords has products whose texts are longer than words before they are reduced.
func TestTreeTimesOfLongWords(t *testing.T) {
	row, back := rowOf(24, 0), rowOf(0, 24)
	back.End = strings.Repeat("A", 24)
	got, ok := impl.TreeTimes(row, back)
	checkTree(t, "TreeTimes of a row and back", got, ok, impl.Tree{Nodes: row.Nodes, End: ""})
	got, ok = impl.TreeTimes(row, treeOf("A"))
	checkTree(t, "TreeTimes one letter back", got, ok, impl.Tree{Nodes: row.Nodes, End: strings.Repeat("a", 23)})
	for _, word := range []string{"a", "b", "aA", "bB", "Aab"} {
		got, ok = impl.TreeTimes(row, treeOf(word))
		checkFailsTree(t, "TreeTimes with a node of 25 letters", got, ok)
	}
	for ahead := range 25 {
		got, ok = impl.TreeTimes(rowOf(ahead, 0), rowOf(12, 0))
		checkTreeIfTold(t, "TreeTimes of rows", got, ok, productOf(rowOf(ahead, 0), rowOf(12, 0)))
		checkHolds(t, fmt.Sprintf("TreeTimes of rows of %d and 12", ahead), ok, ahead <= 12)
	}
}

// TestTreeTimesOfManyNodes has products of just as many nodes as there may be, and of one more.
func TestTreeTimesOfManyNodes(t *testing.T) {
	for count := 55; count <= 60; count++ {
		nodes := broadNodes(count)
		end := nodes[count-1]
		for more := range 7 {
			// The letters lead on from the last node, so that each one adds a node.
			row := treeOf(strings.Repeat(end[len(end)-1:], more))
			got, ok := impl.TreeTimes(treeWith(nodes, end), row)
			checkTreeIfTold(t, "TreeTimes", got, ok, productOf(treeWith(nodes, end), row))
			checkHolds(t, fmt.Sprintf("TreeTimes of %d nodes with %d more", count, more), ok, count+more <= 60)
		}
	}
}

func TestTreeTurned(t *testing.T) {
	cases := []struct{ tree, want impl.Tree }{
		{single, single},
		{treeOf("a"), treeOf("A")},
		{treeOf("ab"), treeOf("BA")},
		{treeOf("aAbB"), treeOf("aAbB")},
		{impl.Tree{Nodes: []string{"", "a", "b"}, End: "a"}, impl.Tree{Nodes: []string{"", "A", "Ab"}, End: "A"}},
		{impl.Tree{Nodes: []string{"", "a", "aB", "aa"}, End: "aa"}, impl.Tree{Nodes: []string{"", "A", "AA", "AB"}, End: "AA"}},
	}
	for _, c := range cases {
		got, ok := impl.TreeTurned(c.tree)
		checkTree(t, fmt.Sprintf("TreeTurned of %q", c.tree), got, ok, c.want)
	}
	eachTree(t, func(t *testing.T, tree impl.Tree) {
		got, ok := impl.TreeTurned(tree)
		checkTreeIfTold(t, "TreeTurned", got, ok, turnedTreeOf(tree))
	})
	for back := range 25 {
		got, ok := impl.TreeTurned(rowOf(12, back))
		checkTreeIfTold(t, "TreeTurned of a row", got, ok, turnedTreeOf(rowOf(12, back)))
		checkHolds(t, fmt.Sprintf("TreeTurned of a row of 12 and %d", back), ok, back <= 12)
	}
}

func TestTreeIdem(t *testing.T) {
	for _, word := range []string{"", "aA", "Bb", "abBA", "aAbB", strings.Repeat("aA", 12)} {
		checkHolds(t, fmt.Sprintf("TreeIdem of the tree of %q", word), impl.TreeIdem(treeOf(word)), true)
	}
	for _, word := range []string{"a", "aAa", "abB", "abAB"} {
		checkHolds(t, fmt.Sprintf("TreeIdem of the tree of %q", word), impl.TreeIdem(treeOf(word)), false)
	}
	eachTree(t, func(t *testing.T, tree impl.Tree) {
		checkHolds(t, "TreeIdem", impl.TreeIdem(tree), tree.End == "")
	})
}

func TestTreeBelow(t *testing.T) {
	checkHolds(t, "TreeBelow of the same", impl.TreeBelow(treeOf("ab"), treeOf("ab")), true)
	checkHolds(t, "TreeBelow of more nodes", impl.TreeBelow(treeOf("aAb"), treeOf("b")), true)
	checkHolds(t, "TreeBelow of fewer nodes", impl.TreeBelow(treeOf("b"), treeOf("aAb")), false)
	checkHolds(t, "TreeBelow of another end", impl.TreeBelow(treeOf("aA"), treeOf("a")), false)
	checkHolds(t, "TreeBelow of the tree of one node", impl.TreeBelow(treeOf("aA"), single), true)
	checkHolds(t, "TreeBelow of other nodes", impl.TreeBelow(treeOf("aA"), treeOf("bB")), false)
	held := 0
	check := func(t *testing.T, first, second impl.Tree) {
		want := belowTreeOf(first, second)
		checkHolds(t, "TreeBelow", impl.TreeBelow(first, second), want)
		if want {
			held++
		}
	}
	eachTreePair(t, check)
	eachTree(t, func(t *testing.T, tree impl.Tree) {
		for _, fewer := range withoutOne(tree) {
			check(t, tree, fewer)
			check(t, fewer, tree)
		}
	})
	if held < 1000 {
		t.Errorf("TreeBelow held only %d times", held)
	}
}

// withoutOne lists what is left of a tree without one of its nodes, where this is a tree.
func withoutOne(tree impl.Tree) []impl.Tree {
	var trees []impl.Tree
	for i := range tree.Nodes {
		fewer := impl.Tree{Nodes: slices.Delete(slices.Clone(tree.Nodes), i, i+1), End: tree.End}
		if isTreeOf(fewer) {
			trees = append(trees, fewer)
		}
	}
	return trees
}

func TestTreeSame(t *testing.T) {
	cases := []struct {
		a, b string
		want bool
	}{
		{"", "", true},
		{"ab", "ab", true},
		{"ab", "ba", false},
		{"aAbB", "bBaA", true},
		{"aA", "", false},
		{"aA", "Aa", false},
		{"aAa", "a", true},
		{"aaA", "a", false},
		{"aA", "a", false},
		{"abBA", "aAabBA", true},
		{"aAb", "b", false},
		{"aAb", "baAB", false},
		{strings.Repeat("aA", 12), "aA", true},
	}
	for _, c := range cases {
		checkHolds(t, fmt.Sprintf("TreeSame of %q and %q", c.a, c.b), impl.TreeSame(c.a, c.b), c.want)
	}
	words := append(wordsUpTo(4), longWords()...)
	var trees []impl.Tree
	for _, word := range words {
		trees = append(trees, treeOf(word))
	}
	for i, a := range words {
		for j, b := range words {
			if got := impl.TreeSame(a, b); got != sameTrees(trees[i], trees[j]) {
				t.Fatalf("TreeSame of %q and %q returned %v", a, b, got)
			}
		}
	}
}

func TestTreeWalk(t *testing.T) {
	cases := []struct {
		tree impl.Tree
		want string
	}{
		{single, ""},
		{treeOf("a"), "aA"},
		{treeOf("Ab"), "AbBa"},
		{treeOf("aAbBAaBb"), "AaBbaAbB"},
		{treeOf("abBBba"), "aBbaAbBA"},
		{impl.Tree{Nodes: []string{"", "B", "b", "BA", "Ba", "bb"}, End: "Ba"}, "BAaaAbbbBB"},
		{rowOf(24, 24), strings.Repeat("A", 24) + strings.Repeat("a", 48) + strings.Repeat("A", 24)},
	}
	for _, c := range cases {
		got, ok := impl.TreeWalk(c.tree)
		checkText(t, fmt.Sprintf("TreeWalk of %q", c.tree), got, ok, c.want)
	}
	eachTree(t, func(t *testing.T, tree impl.Tree) {
		got, ok := impl.TreeWalk(tree)
		checkText(t, "TreeWalk", got, ok, walkFrom(tree, ""))
	})
}

func TestTreeWord(t *testing.T) {
	cases := []struct {
		tree impl.Tree
		want string
	}{
		{single, ""},
		{treeOf("a"), "aAa"},
		{treeOf("aA"), "aA"},
		{treeOf("aAb"), "aAbBb"},
		{treeOf("BA"), "BAabBA"},
	}
	for _, c := range cases {
		got, ok := impl.TreeWord(c.tree)
		checkText(t, fmt.Sprintf("TreeWord of %q", c.tree), got, ok, c.want)
	}
	failed := 0
	eachTree(t, func(t *testing.T, tree impl.Tree) {
		got, ok := impl.TreeWord(tree)
		if want := walkFrom(tree, "") + tree.End; len(want) <= mostLetters {
			checkText(t, "TreeWord", got, ok, want)
		} else {
			checkFailsText(t, "TreeWord", got, ok)
			failed++
		}
	})
	if failed < 20 {
		t.Errorf("TreeWord failed only %d times", failed)
	}
}

// TestTreeWordAtTheLimit has walks that with the end have just as many letters as a word may have, and more.
func TestTreeWordAtTheLimit(t *testing.T) {
	for ahead := range 13 {
		for end := range ahead + 1 {
			tree := rowOf(ahead, 0)
			tree.End = strings.Repeat("a", end)
			got, ok := impl.TreeWord(tree)
			if ahead*2+end <= mostLetters {
				checkText(t, "TreeWord", got, ok, strings.Repeat("a", ahead)+strings.Repeat("A", ahead)+tree.End)
			} else {
				checkFailsText(t, fmt.Sprintf("TreeWord of %q", tree), got, ok)
			}
		}
	}
}

func TestTreeReduced(t *testing.T) {
	cases := []struct{ word, want string }{
		{"", ""},
		{"a", "a"},
		{"abAB", "abAB"},
		{"aA", ""},
		{"Bb", ""},
		{"aAb", "b"},
		{"abB", "a"},
		{"abBA", ""},
		{"aabBAb", "ab"},
		{"aAAa", ""},
		{"aAa", "a"},
		{strings.Repeat("ab", 6) + strings.Repeat("BA", 6), ""},
		{strings.Repeat("b", 24), strings.Repeat("b", 24)},
		{strings.Repeat("b", 13) + strings.Repeat("B", 11), "bb"},
	}
	for _, c := range cases {
		got, ok := impl.TreeReduced(c.word)
		checkText(t, fmt.Sprintf("TreeReduced of %q", c.word), got, ok, c.want)
	}
	eachWord(t, func(t *testing.T, word string) {
		got, ok := impl.TreeReduced(word)
		checkText(t, "TreeReduced", got, ok, reducedOf(word))
	})
}

func TestTreesOfTextsThatAreNoWords(t *testing.T) {
	for _, text := range noWords() {
		tree, ok := impl.TreeOf(text)
		checkFailsTree(t, fmt.Sprintf("TreeOf of %q", text), tree, ok)
		reduced, ok := impl.TreeReduced(text)
		checkFailsText(t, fmt.Sprintf("TreeReduced of %q", text), reduced, ok)
		for _, other := range append(longWords(), "", "a", "b", "aA", text) {
			checkHolds(t, fmt.Sprintf("TreeSame of %q and %q", text, other), impl.TreeSame(text, other), false)
			checkHolds(t, fmt.Sprintf("TreeSame of %q and %q", other, text), impl.TreeSame(other, text), false)
		}
	}
}

// TestTreesOfAllBytes puts each byte into a word.
func TestTreesOfAllBytes(t *testing.T) {
	for i := range 256 {
		for _, text := range []string{string([]byte{byte(i)}), string([]byte{'a', byte(i)}), string([]byte{byte(i), 'b'}), string([]byte{'A', byte(i), 'a'})} {
			got, ok := impl.TreeOf(text)
			if isWordOf(text) {
				checkTree(t, fmt.Sprintf("TreeOf of %q", text), got, ok, treeOf(text))
			} else {
				checkFailsTree(t, fmt.Sprintf("TreeOf of %q", text), got, ok)
			}
		}
	}
}

func TestTreesThatAreNone(t *testing.T) {
	for _, bad := range noTrees() {
		name := fmt.Sprintf(" of %.300q", bad)
		turned, ok := impl.TreeTurned(bad)
		checkFailsTree(t, "TreeTurned"+name, turned, ok)
		walk, ok := impl.TreeWalk(bad)
		checkFailsText(t, "TreeWalk"+name, walk, ok)
		word, ok := impl.TreeWord(bad)
		checkFailsText(t, "TreeWord"+name, word, ok)
		checkHolds(t, "TreeIdem"+name, impl.TreeIdem(bad), false)
		for _, other := range []impl.Tree{bad, single, treeOf("a"), treeOf("aA"), treeOf("aAb"), rowOf(24, 24)} {
			product, ok := impl.TreeTimes(bad, other)
			checkFailsTree(t, "TreeTimes"+name, product, ok)
			product, ok = impl.TreeTimes(other, bad)
			checkFailsTree(t, "TreeTimes"+name, product, ok)
			checkHolds(t, "TreeBelow"+name, impl.TreeBelow(bad, other), false)
			checkHolds(t, "TreeBelow"+name, impl.TreeBelow(other, bad), false)
		}
	}
}

// TestTreesShareNoMemory fills the results, with all of their capacity, and looks at the arguments and at the next results.
func TestTreesShareNoMemory(t *testing.T) {
	calls := []struct {
		name string
		call func(tree impl.Tree) impl.Tree
	}{
		{"TreeOf", func(tree impl.Tree) impl.Tree { of, _ := impl.TreeOf(tree.End); return of }},
		{"TreeTimes", func(tree impl.Tree) impl.Tree { product, _ := impl.TreeTimes(tree, tree); return product }},
		{"TreeTimes by one", func(tree impl.Tree) impl.Tree { product, _ := impl.TreeTimes(tree, single); return product }},
		{"TreeTimes of one", func(tree impl.Tree) impl.Tree { product, _ := impl.TreeTimes(single, tree); return product }},
		{"TreeTurned", func(tree impl.Tree) impl.Tree { turned, _ := impl.TreeTurned(tree); return turned }},
		{"questions", func(tree impl.Tree) impl.Tree {
			impl.TreeIn(tree)
			impl.TreeIdem(tree)
			impl.TreeBelow(tree, tree)
			impl.TreeWord(tree)
			impl.TreeWalk(tree)
			return impl.Tree{}
		}},
	}
	for _, c := range calls {
		for _, tree := range append(treesUpTo(3), append(greatTrees(), noTrees()...)...) {
			memory := append(slices.Clone(tree.Nodes), "spare", "spare")
			before := slices.Clone(memory)
			tree.Nodes = memory[:len(tree.Nodes)]
			first := c.call(tree)
			kept := impl.Tree{Nodes: slices.Clone(first.Nodes), End: first.End}
			for i := range first.Nodes[:cap(first.Nodes)] {
				first.Nodes[:cap(first.Nodes)][i] = "filled"
			}
			if !slices.Equal(memory, before) {
				t.Errorf("%s changed its argument or shares its memory: %q and not %q", c.name, memory, before)
			}
			if second := c.call(tree); !sameTrees(second, kept) {
				t.Errorf("%s returned %q and then %q", c.name, kept, second)
			}
		}
	}
	checkTree(t, "the tree of one node", single, true, impl.Tree{Nodes: []string{""}})
}
