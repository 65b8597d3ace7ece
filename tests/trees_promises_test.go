package tests

import (
	"strings"
	"testing"

	"loop.example/partialcharts/impl"
)

// told counts how often the trees of a promise that is made only of what is told were told.
type told int

// checkAtLeast checks that a promise was not kept for want of trees.
func (n told) checkAtLeast(t *testing.T, least int) {
	t.Helper()
	if int(n) < least {
		t.Errorf("only %d trees were told", n)
	}
}

// timesTree returns the product of trees one behind the other, and whether each product was told.
func timesTree(first impl.Tree, others ...impl.Tree) (impl.Tree, bool) {
	product, ok := first, true
	for _, other := range others {
		if product, ok = impl.TreeTimes(product, other); !ok {
			return impl.Tree{}, false
		}
	}
	return product, true
}

func TestPromise38(t *testing.T) {
	var count told
	eachTree(t, func(t *testing.T, tree impl.Tree) {
		checkHolds(t, "TreeIn", impl.TreeIn(tree), true)
		turned, ok := impl.TreeTurned(tree)
		if !ok {
			return
		}
		if got, ok := timesTree(tree, turned, tree); ok {
			checkTree(t, "the product of it, it turned and it", got, ok, tree)
			count++
		}
		if back, ok := timesTree(turned, tree); ok {
			got, ok := impl.TreeTimes(tree, back)
			checkTree(t, "the product of it and that of it turned and it", got, ok, tree)
		}
	})
	count.checkAtLeast(t, len(treesUpTo(4))+30)
}

func TestPromise39(t *testing.T) {
	eachWord(t, func(t *testing.T, word string) {
		tree := must[impl.Tree](t, "TreeOf")(impl.TreeOf(word))
		reduced, ok := impl.TreeReduced(word)
		checkText(t, "TreeReduced", reduced, ok, tree.End)
		if len(tree.Nodes) > len(word)+1 {
			t.Errorf("TreeOf has %d nodes", len(tree.Nodes))
		}
		inverse := must[impl.Tree](t, "TreeOf")(impl.TreeOf(inverseOf(word)))
		turned, ok := impl.TreeTurned(tree)
		checkTree(t, "TreeTurned", turned, ok, inverse)
	})
}

func TestPromise40(t *testing.T) {
	var asOne, turnedToo told
	eachTreePair(t, func(t *testing.T, first, second impl.Tree) {
		product, ok := impl.TreeTimes(first, second)
		if !ok {
			return
		}
		left, fine := impl.TreeTimes(product, first)
		other, ok := impl.TreeTimes(second, first)
		if ok && fine {
			right, ok := impl.TreeTimes(first, other)
			checkTree(t, "the product with that of the second and the first one", right, ok, left)
			asOne++
		}
		turned, ok := impl.TreeTurned(product)
		back, told := turnedProduct(second, first)
		if ok && told {
			checkTree(t, "TreeTurned of the product", turned, ok, back)
			turnedToo++
		}
	})
	asOne.checkAtLeast(t, 5000)
	turnedToo.checkAtLeast(t, 5000)
}

// turnedProduct returns the product of two trees turned, and whether all of them were told.
func turnedProduct(first, second impl.Tree) (impl.Tree, bool) {
	left, ok := impl.TreeTurned(first)
	right, fine := impl.TreeTurned(second)
	if !ok || !fine {
		return impl.Tree{}, false
	}
	return impl.TreeTimes(left, right)
}

// samePairs lists pairs of words, of which many have the same tree.
func samePairs() [][2]string {
	words := wordsUpTo(4)
	var pairs [][2]string
	for _, a := range words {
		for _, b := range words {
			pairs = append(pairs, [2]string{a, b})
		}
	}
	for _, word := range longWords() {
		short := word[:min(len(word), 8)]
		back := inverseOf(short)
		pairs = append(pairs,
			[2]string{word, word},
			[2]string{short, short + back + short},
			[2]string{short + back, short + back + short + back},
			[2]string{short[:4] + back[4:] + "bB", "bB" + short[:4] + back[4:]},
			[2]string{short[:3] + "aA" + "bB" + "aA", short[:3] + "bB" + "aA" + "bB"},
			[2]string{short[:6] + back[2:], back[:6] + short[2:]})
	}
	for _, word := range []string{"aAbBAa", "abBAba", "aabBAAb", "baABAa"} {
		tree := treeOf(word)
		pairs = append(pairs, [2]string{word, walkFrom(tree, "") + tree.End}, [2]string{walkFrom(tree, "") + tree.End, word})
	}
	return pairs
}

func TestPromise41(t *testing.T) {
	var count told
	for _, pair := range samePairs() {
		if len(pair[0]) > 12 || len(pair[1]) > 12 || !impl.TreeSame(pair[0], pair[1]) {
			continue
		}
		tree := must[impl.Tree](t, "TreeOf")(impl.TreeOf(pair[0]))
		square := must[impl.Tree](t, "TreeTimes")(impl.TreeTimes(tree, tree))
		got, ok := impl.TreeOf(pair[0] + pair[1])
		checkTree(t, "TreeOf of both words behind each other", got, ok, square)
		if pair[0] != pair[1] {
			count++
		}
	}
	count.checkAtLeast(t, 50)
}

func TestPromise42(t *testing.T) {
	var count told
	eachTree(t, func(t *testing.T, tree impl.Tree) {
		turned, ok := impl.TreeTurned(tree)
		if !ok {
			return
		}
		if len(turned.Nodes) != len(tree.Nodes) {
			t.Errorf("TreeTurned has %d nodes", len(turned.Nodes))
		}
		back, ok := impl.TreeTurned(turned)
		checkTree(t, "TreeTurned of it turned", back, ok, tree)
		count++
	})
	count.checkAtLeast(t, len(treesUpTo(4))+30)
}

func TestPromise43(t *testing.T) {
	var count told
	eachTree(t, func(t *testing.T, tree impl.Tree) {
		square, ok := impl.TreeTimes(tree, tree)
		if !impl.TreeIdem(tree) {
			if ok && sameTrees(square, tree) {
				t.Error("TreeIdem does not hold, and its product with itself is it")
			}
			return
		}
		checkTree(t, "its product with itself", square, ok, tree)
		turned, ok := impl.TreeTurned(tree)
		checkTree(t, "TreeTurned", turned, ok, tree)
		count++
	})
	count.checkAtLeast(t, 100)
}

func TestPromise44(t *testing.T) {
	var count told
	check := func(t *testing.T, first, second impl.Tree) {
		turned, ok := impl.TreeTurned(first)
		if !ok || !impl.TreeBelow(first, second) {
			return
		}
		if got, ok := timesTree(first, turned, second); ok {
			checkTree(t, "the product of the first one, it turned and the second one", got, ok, first)
			count++
		}
	}
	eachTreePair(t, check)
	eachTree(t, func(t *testing.T, tree impl.Tree) {
		for _, fewer := range withoutOne(tree) {
			check(t, tree, fewer)
		}
	})
	count.checkAtLeast(t, 1000)
}

func TestPromise45(t *testing.T) {
	var count told
	for _, pair := range samePairs() {
		a, b := pair[0], pair[1]
		if !impl.TreeSame(a, b) {
			checkHolds(t, "TreeSame of both exchanged", impl.TreeSame(b, a), false)
			checkHolds(t, "TreeSame of both inverse", impl.TreeSame(inverseOf(a), inverseOf(b)), false)
			continue
		}
		reduced, ok := impl.TreeReduced(a)
		checkText(t, "TreeReduced", must[string](t, "TreeReduced")(impl.TreeReduced(b)), ok, reduced)
		checkHolds(t, "TreeSame of both exchanged", impl.TreeSame(b, a), true)
		checkHolds(t, "TreeSame of both inverse", impl.TreeSame(inverseOf(a), inverseOf(b)), true)
		if a != b {
			count++
		}
		if t.Failed() {
			t.Fatalf("with the words %q and %q", a, b)
		}
	}
	count.checkAtLeast(t, 50)
}

func TestPromise46(t *testing.T) {
	var count told
	eachTree(t, func(t *testing.T, tree impl.Tree) {
		word, ok := impl.TreeWord(tree)
		if !ok {
			return
		}
		got, ok := impl.TreeOf(word)
		checkTree(t, "TreeOf of TreeWord", got, ok, tree)
		count++
	})
	count.checkAtLeast(t, len(treesUpTo(4)))
}

func TestPromise47(t *testing.T) {
	eachTree(t, func(t *testing.T, tree impl.Tree) {
		walk := must[string](t, "TreeWalk")(impl.TreeWalk(tree))
		if len(walk) != 2*(len(tree.Nodes)-1) || strings.Trim(walk, "abAB") != "" {
			t.Errorf("TreeWalk returned %q", walk)
		}
		if len(walk) <= mostLetters {
			reduced, ok := impl.TreeReduced(walk)
			checkText(t, "TreeReduced of TreeWalk", reduced, ok, "")
		}
	})
}

func TestPromise48(t *testing.T) {
	eachWord(t, func(t *testing.T, word string) {
		reduced := must[string](t, "TreeReduced")(impl.TreeReduced(word))
		again, ok := impl.TreeReduced(reduced)
		checkText(t, "TreeReduced of it", again, ok, reduced)
		if left := len(word) - len(reduced); left < 0 || left%2 != 0 {
			t.Errorf("TreeReduced returned %q", reduced)
		}
	})
}
