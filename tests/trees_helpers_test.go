package tests

import (
	"cmp"
	"slices"
	"strings"
	"sync"
	"testing"

	"loop.example/partialcharts/impl"
)

// The greatest numbers of letters of a word and of nodes of a tree, as the document tells them.
const (
	mostLetters = 24
	mostNodes   = 60
)

// The next functions say what the document says of words and trees, by their texts, without the program.

// isWordOf reports whether a text is a word.
func isWordOf(text string) bool {
	for i := range len(text) {
		if !strings.Contains("abAB", text[i:i+1]) {
			return false
		}
	}
	return len(text) <= mostLetters
}

// reducedOf takes out neighbours that are inverse to each other until there are none.
func reducedOf(text string) string {
	for {
		shorter := text
		for _, pair := range []string{"aA", "Aa", "bB", "Bb"} {
			shorter = strings.Replace(shorter, pair, "", 1)
		}
		if shorter == text {
			return text
		}
		text = shorter
	}
}

// inverseOf returns the inverse of a text of letters.
func inverseOf(text string) string {
	letters := strings.Split(text, "")
	slices.Reverse(letters)
	return strings.NewReplacer("a", "A", "A", "a", "b", "B", "B", "b").Replace(strings.Join(letters, ""))
}

// compareWords puts shorter words first, and those of one length in the order of their texts.
func compareWords(a, b string) int {
	return cmp.Or(len(a)-len(b), cmp.Compare(a, b))
}

// isTreeOf reports whether a tree is as told.
func isTreeOf(t impl.Tree) bool {
	if len(t.Nodes) < 1 || len(t.Nodes) > mostNodes || !slices.Contains(t.Nodes, t.End) || !slices.Contains(t.Nodes, "") {
		return false
	}
	for i, word := range t.Nodes {
		if !isWordOf(word) || reducedOf(word) != word || i > 0 && compareWords(t.Nodes[i-1], word) >= 0 {
			return false
		}
		if word != "" && !slices.Contains(t.Nodes, word[:len(word)-1]) {
			return false
		}
	}
	return true
}

// treeWith returns the tree with nodes and an end that may not be reduced, nor in their order.
func treeWith(nodes []string, end string) impl.Tree {
	var reduced []string
	for _, word := range nodes {
		reduced = append(reduced, reducedOf(word))
	}
	slices.SortFunc(reduced, compareWords)
	return impl.Tree{Nodes: slices.Compact(reduced), End: reducedOf(end)}
}

// beginningsOf lists all beginnings of a text.
func beginningsOf(text string) []string {
	var beginnings []string
	for i := range len(text) + 1 {
		beginnings = append(beginnings, text[:i])
	}
	return beginnings
}

// treeOf returns the tree of a word.
func treeOf(word string) impl.Tree {
	return treeWith(beginningsOf(word), word)
}

// aheadOf puts a word ahead of all words of a list.
func aheadOf(word string, list []string) []string {
	var longer []string
	for _, other := range list {
		longer = append(longer, word+other)
	}
	return longer
}

// productOf returns the product of two trees, which may be none.
func productOf(t, u impl.Tree) impl.Tree {
	return treeWith(append(aheadOf(t.End, u.Nodes), t.Nodes...), t.End+u.End)
}

// turnedTreeOf returns the turned tree, which may be none.
func turnedTreeOf(t impl.Tree) impl.Tree {
	back := inverseOf(t.End)
	return treeWith(aheadOf(back, t.Nodes), back)
}

// belowTreeOf reports whether a tree has the end and all nodes of another one.
func belowTreeOf(t, u impl.Tree) bool {
	return t.End == u.End && !slices.ContainsFunc(u.Nodes, func(word string) bool { return !slices.Contains(t.Nodes, word) })
}

// walkFrom returns the walk through all nodes that begin with a node.
func walkFrom(t impl.Tree, at string) string {
	walk := ""
	for _, letter := range []string{"A", "B", "a", "b"} {
		if slices.Contains(t.Nodes, at+letter) {
			walk += letter + walkFrom(t, at+letter) + inverseOf(letter)
		}
	}
	return walk
}

// sameTrees reports whether two trees have the same nodes and the same end.
func sameTrees(t, u impl.Tree) bool {
	return t.End == u.End && slices.Equal(t.Nodes, u.Nodes)
}

// wordsUpTo lists all words of at most so many letters, shorter ones first.
func wordsUpTo(most int) []string {
	words := []string{""}
	for i := 0; i < len(words) && len(words[i]) < most; i++ {
		words = append(words, aheadOf(words[i], []string{"A", "B", "a", "b"})...)
	}
	return words
}

// longWords lists words of up to 24 letters: some that come back, whole and part of the way, and some that do not.
func longWords() []string {
	words := []string{
		strings.Repeat("a", 24),
		strings.Repeat("B", 23),
		strings.Repeat("ab", 12),
		strings.Repeat("abAB", 6),
		strings.Repeat("aA", 12),
		strings.Repeat("abBA", 6),
		strings.Repeat("aaAA", 5) + "bbBb",
		strings.Repeat("a", 12) + strings.Repeat("A", 12),
		strings.Repeat("b", 12) + strings.Repeat("B", 11),
		strings.Repeat("B", 8) + strings.Repeat("b", 16),
		strings.Repeat("ab", 6) + strings.Repeat("BA", 6),
		strings.Repeat("ab", 6) + strings.Repeat("BA", 5),
		"aAbBAaBbaAbBAaBbaAbBAaBb",
		"aabbABBABAbbaabABBAAbaab",
	}
	for length := 6; length <= mostLetters; length++ {
		for turn := range 4 {
			word := ""
			for i := range length {
				word += string("abAB"[(i*i+turn*i/2+i/3+length)%4])
			}
			words = append(words, word)
		}
	}
	return words
}

// someWords lists all short words and some long ones.
func someWords() []string {
	return append(wordsUpTo(5), longWords()...)
}

// eachWord checks something for every one of some words.
func eachWord(t *testing.T, check func(t *testing.T, word string)) {
	t.Helper()
	for _, word := range someWords() {
		check(t, word)
		if t.Failed() {
			t.Fatalf("with the word %q", word)
		}
	}
}

// noWords are texts that are no words: with other signs, too long, or both.
func noWords() []string {
	return []string{
		" ", "\n", "\x00", "\xff", "c", "C", "1", "-", ".", "@", "`", "[", "{",
		"ab ", " ab", "a b", "abc", "cab", "acb", "ab\n", "\x00a", "a\x00", "a\xe1A", "a\u00e4", "\u0430", "\uff41",
		strings.Repeat("a", 23) + "c",
		"c" + strings.Repeat("a", 23),
		strings.Repeat("a", 12) + " " + strings.Repeat("A", 12),
		strings.Repeat("a", 25),
		strings.Repeat("aA", 12) + "a",
		strings.Repeat("aA", 12) + "b",
		"b" + strings.Repeat("aA", 12),
		strings.Repeat("bB", 13),
		strings.Repeat("b", 13) + strings.Repeat("B", 13),
		strings.Repeat("abBA", 1000),
		strings.Repeat("c", 1000),
	}
}

// treesUpTo lists all trees of at most so many nodes.
func treesUpTo(most int) []impl.Tree {
	var trees []impl.Tree
	parts := [][]string{{""}}
	for range most {
		var longer [][]string
		for _, nodes := range parts {
			for _, end := range nodes {
				trees = append(trees, impl.Tree{Nodes: nodes, End: end})
			}
			for _, next := range nextTo(nodes) {
				longer = append(longer, treeWith(append(slices.Clone(nodes), next), "").Nodes)
			}
		}
		slices.SortFunc(longer, slices.Compare[[]string])
		parts = slices.CompactFunc(longer, slices.Equal[[]string])
	}
	return trees
}

// nextTo lists the words that make one more letter of nodes, and are none of them.
func nextTo(nodes []string) []string {
	var words []string
	for _, node := range nodes {
		for _, word := range aheadOf(node, []string{"A", "B", "a", "b"}) {
			if reducedOf(word) == word && !slices.Contains(nodes, word) {
				words = append(words, word)
			}
		}
	}
	return words
}

// broadNodes lists so many nodes, as short as they can be.
func broadNodes(count int) []string {
	nodes := []string{""}
	for i := 0; len(nodes) < count; i++ {
		for _, letter := range []string{"A", "B", "a", "b"} {
			if word := nodes[i] + letter; reducedOf(word) == word && len(nodes) < count {
				nodes = append(nodes, word)
			}
		}
	}
	return nodes
}

// rowOf returns the tree of nodes that a letter repeated leads to, so many on both sides, with the last one as its end.
func rowOf(ahead, back int) impl.Tree {
	nodes := append(beginningsOf(strings.Repeat("a", ahead)), beginningsOf(strings.Repeat("A", back))...)
	return treeWith(nodes, strings.Repeat("a", ahead))
}

// greatTrees lists trees of many nodes, or of long ones.
func greatTrees() []impl.Tree {
	combed := beginningsOf(strings.Repeat("ab", 12))
	for _, word := range beginningsOf(strings.Repeat("ab", 11))[1:] {
		combed = append(combed, word+word[len(word)-1:])
	}
	trees := []impl.Tree{
		rowOf(24, 24), rowOf(24, 0), rowOf(12, 12), rowOf(0, 24),
		treeWith(combed, "abab"),
		treeWith(combed, strings.Repeat("ab", 12)),
		treeWith(append(broadNodes(38), beginningsOf(strings.Repeat("ba", 12))...), strings.Repeat("ba", 12)),
	}
	for _, count := range []int{20, 53, 59, 60} {
		nodes := broadNodes(count)
		trees = append(trees, treeWith(nodes, ""), treeWith(nodes, nodes[1]), treeWith(nodes, nodes[count-1]))
	}
	for _, word := range longWords() {
		trees = append(trees, treeOf(word))
	}
	return trees
}

// someTrees lists all trees of few nodes and some of many, made without the program.
var someTrees = sync.OnceValue(func() []impl.Tree {
	return append(treesUpTo(4), greatTrees()...)
})

// eachTree checks something for every one of some trees.
func eachTree(t *testing.T, check func(t *testing.T, tree impl.Tree)) {
	t.Helper()
	for _, tree := range someTrees() {
		check(t, tree)
		if t.Failed() {
			t.Fatalf("with the tree %v", tree)
		}
	}
}

// eachTreePair checks something for pairs of trees: all of few nodes, and the great ones with some of both.
func eachTreePair(t *testing.T, check func(t *testing.T, first, second impl.Tree)) {
	t.Helper()
	both := func(few, many []impl.Tree) {
		for _, first := range few {
			for _, second := range many {
				check(t, first, second)
				check(t, second, first)
				if t.Failed() {
					t.Fatalf("with the trees %v and %v", first, second)
				}
			}
		}
	}
	both(treesUpTo(3), treesUpTo(3))
	both(treesUpTo(2), greatTrees())
	both(greatTrees()[:19], greatTrees()[:30])
}

// noTrees are trees that are not as told.
func noTrees() []impl.Tree {
	trees := []impl.Tree{
		{},
		{End: "a"},
		{Nodes: []string{}, End: ""},
		{Nodes: []string{"a"}, End: "a"},
		{Nodes: []string{"a"}, End: ""},
		// Some that stand twice.
		{Nodes: []string{"", ""}, End: ""},
		{Nodes: []string{"", "a", "a"}, End: "a"},
		{Nodes: []string{"", "a", ""}, End: ""},
		{Nodes: []string{"", "a", "b", "a"}, End: ""},
		// Some out of their order: by their lengths, and by their texts.
		{Nodes: []string{"a", ""}, End: ""},
		{Nodes: []string{"", "a", "ab", "b"}, End: "ab"},
		{Nodes: []string{"", "b", "a"}, End: ""},
		{Nodes: []string{"", "a", "A"}, End: ""},
		{Nodes: []string{"", "a", "B"}, End: ""},
		{Nodes: []string{"", "a", "b", "ba", "ab"}, End: ""},
		// A beginning is missing.
		{Nodes: []string{"", "aa"}, End: ""},
		{Nodes: []string{"", "b", "aa"}, End: ""},
		{Nodes: []string{"", "a", "aab"}, End: ""},
		{Nodes: []string{"a", "aa"}, End: "a"},
		// Some are not reduced, whether what is reduced is among them or not.
		{Nodes: []string{"", "aA"}, End: ""},
		{Nodes: []string{"", "a", "aA"}, End: ""},
		{Nodes: []string{"", "a", "aA", "aAb"}, End: ""},
		{Nodes: []string{"", "a", "aAb"}, End: ""},
		{Nodes: []string{"", "a", "aAa"}, End: "a"},
		{Nodes: []string{"", "a", "b", "aAb"}, End: "b"},
		{Nodes: []string{"", "b", "bB", "bBb"}, End: ""},
		// The end is no node, not reduced, or no word.
		{Nodes: []string{""}, End: "a"},
		{Nodes: []string{"", "a"}, End: "A"},
		{Nodes: []string{"", "a"}, End: "aa"},
		{Nodes: []string{"", "a"}, End: "aA"},
		{Nodes: []string{"", "a"}, End: "Aaa"},
		{Nodes: []string{""}, End: " "},
		{Nodes: []string{""}, End: strings.Repeat("aA", 13)},
		// There are too many nodes.
		treeWith(broadNodes(61), ""),
		treeWith(broadNodes(61), "a"),
		treeWith(broadNodes(200), ""),
		treeWith(broadNodes(2000), "b"),
		{Nodes: make([]string, 61), End: ""},
		{Nodes: make([]string, 100000), End: ""},
		// A node is too long.
		rowOf(25, 0), rowOf(0, 25), rowOf(25, 25),
		treeWith(rowOf(25, 0).Nodes, ""),
		treeWith(beginningsOf(strings.Repeat("abAB", 7)), "ab"),
	}
	for _, text := range noWords() {
		trees = append(trees,
			impl.Tree{Nodes: []string{text}, End: text},
			impl.Tree{Nodes: []string{"", text}, End: ""},
			impl.Tree{Nodes: []string{"", text}, End: text},
			impl.Tree{Nodes: []string{"", "a"}, End: text})
	}
	return trees
}

// checkTree checks that a call has returned a tree and true.
func checkTree(t *testing.T, name string, got impl.Tree, ok bool, want impl.Tree) {
	t.Helper()
	if !ok || !sameTrees(got, want) {
		t.Errorf("%s returned %q, %v, and not %q", name, got, ok, want)
	}
}

// checkFailsTree checks that a call has returned false and the zero tree.
func checkFailsTree(t *testing.T, name string, got impl.Tree, ok bool) {
	t.Helper()
	if ok || len(got.Nodes) != 0 || got.End != "" {
		t.Errorf("%s returned %q, %v where it fails", name, got, ok)
	}
}

// checkTreeIfTold checks that a call has returned a tree, or none where this is none.
func checkTreeIfTold(t *testing.T, name string, got impl.Tree, ok bool, want impl.Tree) {
	t.Helper()
	if isTreeOf(want) {
		checkTree(t, name, got, ok, want)
	} else {
		checkFailsTree(t, name, got, ok)
	}
}

// checkText checks that a call has returned a text and true.
func checkText(t *testing.T, name string, got string, ok bool, want string) {
	t.Helper()
	if !ok || got != want {
		t.Errorf("%s returned %q, %v, and not %q", name, got, ok, want)
	}
}

// checkFailsText checks that a call has returned false and no text.
func checkFailsText(t *testing.T, name string, got string, ok bool) {
	t.Helper()
	if ok || got != "" {
		t.Errorf("%s returned %q, %v where it fails", name, got, ok)
	}
}
