package tests

import (
	"fmt"
	"slices"
	"testing"

	"loop.example/partialcharts/impl"
)

func TestCongruenceIn(t *testing.T) {
	cases := []struct {
		list [][]int
		c    []int
		want bool
	}{
		{[][]int{{0}}, []int{0}, true},
		{[][]int{{-1}}, []int{0}, true},
		{[][]int{{-1}}, []int{1}, false},
		{[][]int{{-1}}, []int{-1}, false},
		{[][]int{{-1}, {0}}, []int{0, 0}, true},
		{[][]int{{-1}, {0}}, []int{0, 1}, true},
		{[][]int{{-1}, {0}}, []int{1, 0}, false},
		{[][]int{{-1}, {0}}, []int{0, 2}, false},
		{[][]int{{-1}, {0}}, []int{0, -1}, false},
		{[][]int{{-1}, {0}}, []int{1, 1}, false},
		{turns, []int{0, 1, 2}, true},
		{turns, []int{0, 0, 0}, true},
		{turns, []int{0, 2, 1}, false},
		{turns, []int{0, 1, 0}, false},
		{turns, []int{0, 1, 3}, false},
		{turns, []int{0, 3, 3}, false},
		{brandt, []int{0, 1, 2, 3, 4}, true},
		{brandt, []int{0, 0, 0, 0, 0}, true},
		{brandt, []int{0, 1, 1, 1, 1}, false},
		// Charts with the same domain: their products with one behind are not all equal.
		{brandt, []int{0, 1, 1, 2, 2}, false},
		// Charts with the same range: their products with one ahead are not all equal.
		{brandt, []int{0, 1, 2, 1, 2}, false},
		{sets, []int{0, 0, 1, 1}, true},
		{sets, []int{0, 1, 0, 1}, true},
		{sets, []int{0, 0, 0, 1}, true},
		{sets, []int{0, 1, 1, 2}, false},
		{sets, []int{0, 1, 2, 2}, false},
		{twoSwaps, []int{0, 1, 0, 1}, true},
		{twoSwaps, []int{0, 0, 1, 1}, true},
		{twoSwaps, []int{0, 0, 1, 2}, true},
		{twoSwaps, []int{0, 1, 2, 2}, false},
		{twoSwaps, []int{0, 1, 1, 0}, false},
		{swapAndNothing, []int{0, 1, 1}, true},
		{swapAndNothing, []int{0, 0, 1}, false},
		{chartsOf(2), []int{0, 0, 0, 0, 1, 0, 1}, true},
		{chartsOf(2), []int{0, 0, 0, 0, 1, 0, 2}, true},
		{chartsOf(2), []int{0, 1, 2, 3, 4, 5, 4}, false},
	}
	for _, c := range cases {
		checkHolds(t, fmt.Sprintf("CongruenceIn of %v in %v", c.c, c.list), impl.CongruenceIn(c.list, c.c), c.want)
	}
	eachCongruence(t, func(t *testing.T, list [][]int, c []int) {
		checkHolds(t, "CongruenceIn", impl.CongruenceIn(list, c), true)
	})
}

// TestCongruenceInOfAllClasses asks for all class numbers of few charts.
func TestCongruenceInOfAllClasses(t *testing.T) {
	var holds, not counted
	eachArrows(t, func(t *testing.T, list [][]int) {
		if len(list) > fewCharts {
			return
		}
		products := productsOf(list)
		for _, c := range allClasses(len(list)) {
			want := isCongruenceOf(products, c)
			checkHolds(t, fmt.Sprintf("CongruenceIn of %v", c), impl.CongruenceIn(list, c), want)
			if want {
				holds++
			} else {
				not++
			}
		}
	})
	holds.checkAtLeast(t, 500)
	not.checkAtLeast(t, 5000)
}

// TestCongruenceInOfAllNumbers asks for all lists of small numbers, of all lengths, with semigroups of few charts.
func TestCongruenceInOfAllNumbers(t *testing.T) {
	for _, list := range [][][]int{{{0}}, {{-1}}, {{-1}, {0}}, {{0, 1}, {1, 0}}, turns, topless, swapAndNothing, sets, twoSwaps} {
		products := productsOf(list)
		for n := range len(list) + 2 {
			for _, c := range allNumbers(n) {
				name := fmt.Sprintf("CongruenceIn of %v in %v", c, list)
				checkHolds(t, name, impl.CongruenceIn(list, c), isCongruenceOf(products, c))
			}
		}
	}
}

// TestCongruenceInByOneChart puts single charts into other classes.
func TestCongruenceInByOneChart(t *testing.T) {
	eachCongruence(t, func(t *testing.T, list [][]int, c []int) {
		if len(list) > manyCharts {
			return
		}
		products := productsOf(list)
		for i := range c {
			for _, number := range fewOf(aloneOf(sizeOf(c) + 1)) {
				changed := withNumber(c, i, number)
				name := fmt.Sprintf("CongruenceIn of %v", changed)
				checkHolds(t, name, impl.CongruenceIn(list, changed), isCongruenceOf(products, changed))
			}
		}
	})
}

// TestCongruenceInOfGreatSemigroups takes classes of many charts that products keep on one side only, and such as two charts are put into.
func TestCongruenceInOfGreatSemigroups(t *testing.T) {
	for _, k := range greatCongruents() {
		n := len(k.list)
		name := fmt.Sprintf("CongruenceIn of %d charts", n)
		domains := numberedOf(n, func(i, j int) bool { return domainOf(k.list[i]) == domainOf(k.list[j]) })
		ranges := numberedOf(n, func(i, j int) bool { return rangeOf(k.list[i]) == rangeOf(k.list[j]) })
		last, first := aloneOf(n), oneOf(n)
		last[n-1], first[n-1] = 0, 1
		for _, c := range [][]int{domains, ranges, last, first} {
			checkHolds(t, name, impl.CongruenceIn(k.list, c), isCongruenceOf(k.products, c))
		}
		checkHolds(t, name+" by their ranges, with one behind", keptOf(k.products, ranges), true)
		checkHolds(t, name+" by their ranges", impl.CongruenceIn(k.list, ranges), false)
		checkHolds(t, name+" by their domains", impl.CongruenceIn(k.list, domains), false)
	}
}

func TestCongruenceGroup(t *testing.T) {
	cases := []struct {
		list [][]int
		want []int
	}{
		{[][]int{{0}}, []int{0}},
		{[][]int{{-1}}, []int{0}},
		{[][]int{{-1}, {0}}, []int{0, 0}},
		{nothing, []int{0}},
		// Groups.
		{turns, []int{0, 1, 2}},
		{[][]int{{0, 1}, {1, 0}}, []int{0, 1}},
		// With the chart that moves nothing.
		{brandt, []int{0, 0, 0, 0, 0}},
		{swapAndNothing, []int{0, 0, 0}},
		{chartsOf(2), oneOf(7)},
		{chartsOf(3), oneOf(34)},
		// Unitary ones.
		{twoSwaps, []int{0, 1, 0, 1}},
		{sets, []int{0, 0, 0, 0}},
		{topless, []int{0, 0, 0}},
		// Such as are not unitary and do not have it.
		{branching, []int{0, 0, 0}},
		{closureOf([][]int{{1, 0, 2, 3}, {1, 0, -1, -1}, {0, 1, 3, 2}}), []int{0, 0, 0, 1, 1, 1}},
	}
	for _, c := range cases {
		got, ok := impl.CongruenceGroup(c.list)
		checkList(t, fmt.Sprintf("CongruenceGroup of %v", c.list), got, ok, c.want)
	}
	eachCongruent(t, func(t *testing.T, k congruent) {
		got, ok := impl.CongruenceGroup(k.list)
		checkList(t, "CongruenceGroup", got, ok, groupOf(k.list))
	})
}

func TestCongruenceLeast(t *testing.T) {
	cases := []struct {
		list [][]int
		f, g []int
		want []int
	}{
		{[][]int{{0}}, []int{0}, []int{0}, []int{0}},
		{[][]int{{-1}, {0}}, []int{0}, []int{0}, []int{0, 1}},
		{[][]int{{-1}, {0}}, []int{-1}, []int{0}, []int{0, 0}},
		{turns, []int{1, 2, 0}, []int{1, 2, 0}, []int{0, 1, 2}},
		{turns, []int{1, 2, 0}, []int{2, 0, 1}, []int{0, 0, 0}},
		{sets, []int{-1, -1}, []int{-1, 1}, []int{0, 0, 1, 2}},
		{sets, []int{0, 1}, []int{-1, 1}, []int{0, 1, 0, 1}},
		{sets, []int{-1, 1}, []int{0, -1}, []int{0, 0, 0, 1}},
		{sets, []int{-1, -1}, []int{0, 1}, []int{0, 0, 0, 0}},
		{twoSwaps, []int{-1, -1, 2, 3}, []int{-1, -1, 3, 2}, []int{0, 0, 1, 2}},
		{twoSwaps, []int{0, 1, 2, 3}, []int{0, 1, 3, 2}, []int{0, 0, 1, 1}},
		{twoSwaps, []int{-1, -1, 3, 2}, []int{0, 1, 3, 2}, []int{0, 1, 0, 1}},
		{twoSwaps, []int{-1, -1, 2, 3}, []int{0, 1, 3, 2}, []int{0, 0, 0, 0}},
		{swapAndNothing, []int{0, 1}, []int{1, 0}, []int{0, 1, 1}},
		// Several rounds: products of both, then products of these and of charts that are equal to them.
		{brandt, []int{0, -1}, []int{1, -1}, oneOf(5)},
		{brandt, []int{-1, -1}, []int{1, -1}, oneOf(5)},
		{chartsOf(2), []int{0, 1}, []int{1, 0}, []int{0, 0, 0, 0, 1, 0, 1}},
		{chartsOf(2), []int{0, -1}, []int{-1, 1}, []int{0, 0, 0, 0, 1, 0, 2}},
		{chartsOf(2), []int{-1, -1}, []int{1, 0}, oneOf(7)},
		{chartsOf(2), []int{1, -1}, []int{1, 0}, oneOf(7)},
	}
	for _, c := range cases {
		name := fmt.Sprintf("CongruenceLeast of %v and %v in %v", c.f, c.g, c.list)
		got, ok := impl.CongruenceLeast(c.list, c.f, c.g)
		checkList(t, name, got, ok, c.want)
		got, ok = impl.CongruenceLeast(c.list, c.g, c.f)
		checkList(t, name+", exchanged", got, ok, c.want)
	}
}

// TestCongruenceLeastOfAllCharts takes all charts of three points: those of a rank are one class with all of less rank,
// or fall into two or more by how they turn the points.
func TestCongruenceLeastOfAllCharts(t *testing.T) {
	all := chartsOf(3)
	products := productsOf(all)
	for i, f := range all {
		for j, g := range all {
			got, ok := impl.CongruenceLeast(all, f, g)
			checkList(t, fmt.Sprintf("CongruenceLeast of %v and %v", f, g), got, ok, leastOf(products, i, j))
		}
	}
	for _, c := range []struct {
		g    []int
		size int
	}{
		{[]int{0, 1, 2}, 34},
		{[]int{1, 2, 0}, 3},
		{[]int{1, 0, 2}, 2},
		{[]int{0, 1, -1}, 1},
	} {
		got, ok := impl.CongruenceLeast(all, []int{0, 1, 2}, c.g)
		checkNumber(t, fmt.Sprintf("the size of CongruenceLeast with %v", c.g), sizeOf(got), ok, c.size)
	}
}

func TestCongruenceLeastOfSemigroups(t *testing.T) {
	eachCongruent(t, func(t *testing.T, k congruent) {
		places := fewFor(k, aloneOf(len(k.list)))
		for _, i := range places {
			for _, j := range places {
				got, ok := impl.CongruenceLeast(k.list, k.list[i], k.list[j])
				name := fmt.Sprintf("CongruenceLeast of %v and %v", k.list[i], k.list[j])
				checkList(t, name, got, ok, leastOf(k.products, i, j))
			}
		}
	})
}

// TestCongruenceLeastIsLeast holds it against all congruences by which both charts are equal.
func TestCongruenceLeastIsLeast(t *testing.T) {
	for _, k := range smallCongruents() {
		if len(k.list) > fewCharts {
			continue
		}
		for i, f := range k.list {
			for j, g := range k.list {
				with := keepOf(k.congruences, func(c []int) bool { return c[i] == c[j] })
				want := numberedOf(len(k.list), func(i, j int) bool {
					return !slices.ContainsFunc(with, func(c []int) bool { return c[i] != c[j] })
				})
				got, ok := impl.CongruenceLeast(k.list, f, g)
				checkList(t, fmt.Sprintf("CongruenceLeast of %v and %v in %v", f, g, k.list), got, ok, want)
			}
		}
	}
}

// TestCongruenceLeastWithOtherCharts gives charts that are not among those of the semigroup, and what is no chart.
func TestCongruenceLeastWithOtherCharts(t *testing.T) {
	for _, list := range append(moreSemigroups(), brandt, turns, sets, topless, twoSwaps, chartsOf(2), chartsOf(3)) {
		for _, g := range othersOf(list) {
			name := fmt.Sprintf("CongruenceLeast in %v with %v", list, g)
			got, ok := impl.CongruenceLeast(list, g, g)
			checkFails(t, name, got, ok)
			for _, f := range fewOf(list) {
				got, ok = impl.CongruenceLeast(list, f, g)
				checkFails(t, name, got, ok)
				got, ok = impl.CongruenceLeast(list, g, f)
				checkFails(t, name, got, ok)
			}
		}
	}
}

func TestCongruenceSplit(t *testing.T) {
	cases := []struct {
		list [][]int
		want []int
	}{
		{[][]int{{0}}, []int{0}},
		{[][]int{{-1}}, []int{0}},
		{[][]int{{-1}, {0}}, []int{0, 1}},
		{nothing, []int{0}},
		{turns, []int{0, 0, 0}},
		{brandt, []int{0, 1, 2, 3, 4}},
		{swapAndNothing, []int{0, 1, 1}},
		{sets, []int{0, 1, 2, 3}},
		{topless, []int{0, 1, 2}},
		{twoSwaps, []int{0, 0, 1, 1}},
		{branching, []int{0, 1, 1}},
		{groupsApart, []int{0, 1, 1, 2, 2, 2}},
		{chartsOf(2), aloneOf(7)},
		{chartsOf(3), aloneOf(34)},
		// Both swap what no chart moves alone, or do not.
		{closureOf([][]int{{1, 0, 2}, {0, 1, -1}}), []int{0, 1, 0, 1}},
	}
	for _, c := range cases {
		got, ok := impl.CongruenceSplit(c.list)
		checkList(t, fmt.Sprintf("CongruenceSplit of %v", c.list), got, ok, c.want)
	}
	eachCongruent(t, func(t *testing.T, k congruent) {
		got, ok := impl.CongruenceSplit(k.list)
		checkList(t, "CongruenceSplit", got, ok, splitOf(k.list))
	})
	// The charts that move three points besides do not differ by it.
	got, ok := impl.CongruenceSplit(mixed)
	checkNumber(t, "the size of CongruenceSplit", sizeOf(got), ok, 34)
}

// TestCongruenceSplitIsGreatest holds it against all splitting congruences.
func TestCongruenceSplitIsGreatest(t *testing.T) {
	for _, k := range smallCongruents() {
		if len(k.list) > fewCharts {
			continue
		}
		got, ok := impl.CongruenceSplit(k.list)
		checkHolds(t, "CongruenceSplit", ok && isCongruenceOf(k.products, got) && splitsOf(k.list, got), true)
		for _, c := range k.congruences {
			if splitsOf(k.list, c) && !finerOf(c, got) {
				t.Errorf("CongruenceSplit of %v returned %v, but %v splits", k.list, got, c)
			}
		}
	}
}

func TestCongruenceSplits(t *testing.T) {
	cases := []struct {
		list [][]int
		c    []int
		want bool
	}{
		{[][]int{{0}}, []int{0}, true},
		{[][]int{{-1}, {0}}, []int{0, 0}, false},
		{[][]int{{-1}, {0}}, []int{0, 1}, true},
		{turns, []int{0, 0, 0}, true},
		{turns, []int{0, 1, 2}, true},
		{twoSwaps, []int{0, 1, 2, 3}, true},
		// Finer than the greatest one, and this.
		{twoSwaps, []int{0, 0, 1, 2}, true},
		{twoSwaps, []int{0, 0, 1, 1}, true},
		{twoSwaps, []int{0, 1, 0, 1}, false},
		{twoSwaps, []int{0, 0, 0, 0}, false},
		// They would split, but are none.
		{twoSwaps, []int{0, 1, 2, 2}, false},
		{twoSwaps, []int{0, 0, 1, 3}, false},
		{brandt, []int{0, 1, 2, 3, 4}, true},
		{brandt, []int{0, 1, 2, 1, 3}, false},
		{chartsOf(2), []int{0, 0, 0, 0, 1, 0, 2}, false},
		{swapAndNothing, []int{0, 1, 1}, true},
	}
	for _, c := range cases {
		checkHolds(t, fmt.Sprintf("CongruenceSplits of %v in %v", c.c, c.list), impl.CongruenceSplits(c.list, c.c), c.want)
	}
	eachCongruence(t, func(t *testing.T, list [][]int, c []int) {
		checkHolds(t, "CongruenceSplits", impl.CongruenceSplits(list, c), splitsOf(list, c))
	})
}

func TestCongruenceKernel(t *testing.T) {
	cases := []struct {
		list [][]int
		c    []int
		want [][]int
	}{
		{[][]int{{0}}, []int{0}, [][]int{{0}}},
		{turns, []int{0, 1, 2}, turns[:1]},
		{turns, []int{0, 0, 0}, turns},
		{brandt, []int{0, 1, 2, 3, 4}, [][]int{{-1, -1}, {-1, 1}, {0, -1}}},
		{brandt, oneOf(5), brandt},
		// Just the charts of SemigroupIdems, and all charts.
		{twoSwaps, []int{0, 1, 2, 3}, [][]int{{-1, -1, 2, 3}, {0, 1, 2, 3}}},
		{twoSwaps, []int{0, 1, 0, 1}, [][]int{{-1, -1, 2, 3}, {0, 1, 2, 3}}},
		{twoSwaps, []int{0, 0, 1, 1}, twoSwaps},
		// More than these, and not all.
		{twoSwaps, []int{0, 0, 1, 2}, twoSwaps[:3]},
		{chartsOf(2), []int{0, 0, 0, 0, 1, 0, 2}, [][]int{{-1, -1}, {-1, 0}, {-1, 1}, {0, -1}, {0, 1}, {1, -1}}},
		{chartsOf(2), []int{0, 0, 0, 0, 1, 0, 1}, chartsOf(2)},
		{sets, []int{0, 1, 2, 3}, sets},
	}
	for _, c := range cases {
		got, ok := impl.CongruenceKernel(c.list, c.c)
		checkLists(t, fmt.Sprintf("CongruenceKernel of %v in %v", c.c, c.list), got, ok, c.want)
	}
	eachCongruence(t, func(t *testing.T, list [][]int, c []int) {
		got, ok := impl.CongruenceKernel(list, c)
		checkLists(t, "CongruenceKernel", got, ok, kernelOf(list, c))
	})
}

func TestCongruenceSize(t *testing.T) {
	cases := []struct {
		list [][]int
		c    []int
		want int
	}{
		{[][]int{{0}}, []int{0}, 1},
		{[][]int{{-1}, {0}}, []int{0, 1}, 2},
		{turns, []int{0, 0, 0}, 1},
		{turns, []int{0, 1, 2}, 3},
		{brandt, aloneOf(5), 5},
		{brandt, oneOf(5), 1},
		{twoSwaps, []int{0, 0, 1, 2}, 3},
		{twoSwaps, []int{0, 1, 0, 1}, 2},
		{chartsOf(2), []int{0, 0, 0, 0, 1, 0, 2}, 3},
		{chartsOf(3), aloneOf(34), 34},
		{chartsOf(4), aloneOf(209), 209},
		{chartsOf(4), oneOf(209), 1},
	}
	for _, c := range cases {
		got, ok := impl.CongruenceSize(c.list, c.c)
		checkNumber(t, fmt.Sprintf("CongruenceSize of %v in %v", c.c, c.list), got, ok, c.want)
	}
	eachCongruence(t, func(t *testing.T, list [][]int, c []int) {
		got, ok := impl.CongruenceSize(list, c)
		checkNumber(t, "CongruenceSize", got, ok, sizeOf(c))
	})
}

func TestCongruenceFiner(t *testing.T) {
	cases := []struct {
		list [][]int
		c, d []int
		want bool
	}{
		{[][]int{{0}}, []int{0}, []int{0}, true},
		{[][]int{{-1}, {0}}, []int{0, 1}, []int{0, 0}, true},
		{[][]int{{-1}, {0}}, []int{0, 0}, []int{0, 1}, false},
		{[][]int{{-1}, {0}}, []int{0, 0}, []int{0, 0}, true},
		{[][]int{{-1}, {0}}, []int{0, 1}, []int{0, 1}, true},
		// Neither is finer.
		{sets, []int{0, 0, 1, 1}, []int{0, 1, 0, 1}, false},
		{sets, []int{0, 1, 0, 1}, []int{0, 0, 1, 1}, false},
		{twoSwaps, []int{0, 0, 1, 2}, []int{0, 1, 0, 1}, false},
		{twoSwaps, []int{0, 1, 0, 1}, []int{0, 0, 1, 2}, false},
		// One of both is.
		{sets, []int{0, 0, 0, 1}, []int{0, 0, 0, 0}, true},
		{twoSwaps, []int{0, 0, 1, 2}, []int{0, 0, 1, 1}, true},
		{twoSwaps, []int{0, 0, 1, 1}, []int{0, 0, 1, 2}, false},
		{chartsOf(2), []int{0, 0, 0, 0, 1, 0, 2}, []int{0, 0, 0, 0, 1, 0, 1}, true},
		{chartsOf(2), []int{0, 0, 0, 0, 1, 0, 1}, []int{0, 0, 0, 0, 1, 0, 2}, false},
		// One of both is no congruence.
		{twoSwaps, []int{0, 1, 2, 2}, []int{0, 0, 0, 0}, false},
		{twoSwaps, []int{0, 1, 2, 3}, []int{0, 1, 2, 2}, false},
		{twoSwaps, []int{0, 1, 2, 2}, []int{0, 1, 2, 2}, false},
	}
	for _, c := range cases {
		name := fmt.Sprintf("CongruenceFiner of %v and %v in %v", c.c, c.d, c.list)
		checkHolds(t, name, impl.CongruenceFiner(c.list, c.c, c.d), c.want)
	}
	var finer, not counted
	eachCongruent(t, func(t *testing.T, k congruent) {
		few := fewFor(k, k.congruences)
		for _, c := range few {
			for _, d := range few {
				want := finerOf(c, d)
				checkHolds(t, fmt.Sprintf("CongruenceFiner of %v and %v", c, d), impl.CongruenceFiner(k.list, c, d), want)
				if want {
					finer++
				} else {
					not++
				}
			}
		}
	})
	finer.checkAtLeast(t, 1000)
	not.checkAtLeast(t, 1000)
}

// checkFailsAll checks what all functions answer for numbers that are no congruence of a semigroup, alone and beside others.
func checkFailsAll(t *testing.T, list [][]int, c []int, others [][]int) {
	t.Helper()
	name := fmt.Sprintf(" of %v in %v", c, list)
	checkHolds(t, "CongruenceIn"+name, impl.CongruenceIn(list, c), false)
	checkHolds(t, "CongruenceSplits"+name, impl.CongruenceSplits(list, c), false)
	kernel, ok := impl.CongruenceKernel(list, c)
	checkFailsLists(t, "CongruenceKernel"+name, kernel, ok)
	size, ok := impl.CongruenceSize(list, c)
	checkFailsNumber(t, "CongruenceSize"+name, size, ok)
	checkHolds(t, "CongruenceFiner"+name, impl.CongruenceFiner(list, c, c), false)
	for _, d := range others {
		checkHolds(t, "CongruenceFiner"+name, impl.CongruenceFiner(list, c, d), false)
		checkHolds(t, "CongruenceFiner"+name, impl.CongruenceFiner(list, d, c), false)
	}
}

func TestCongruencesOfNumbersThatAreNone(t *testing.T) {
	eachCongruence(t, func(t *testing.T, list [][]int, c []int) {
		if len(list) > 10 {
			return
		}
		for _, none := range noClassesOf(c) {
			checkFailsAll(t, list, none, [][]int{c, aloneOf(len(list)), oneOf(len(list))})
		}
	})
	for _, k := range greatCongruents() {
		c := k.congruences[len(k.congruences)/2]
		for _, none := range noClassesOf(c)[:24] {
			checkHolds(t, "CongruenceIn of a great semigroup", impl.CongruenceIn(k.list, none), false)
		}
	}
}

// TestCongruencesOfClassesThatAreNone takes classes in order that products do not keep, among them such as they keep on one side only.
func TestCongruencesOfClassesThatAreNone(t *testing.T) {
	var behind, ahead counted
	eachArrows(t, func(t *testing.T, list [][]int) {
		if len(list) > fewCharts {
			return
		}
		products := productsOf(list)
		for _, c := range allClasses(len(list)) {
			if isCongruenceOf(products, c) {
				continue
			}
			checkFailsAll(t, list, c, [][]int{aloneOf(len(list)), oneOf(len(list))})
			if keptOf(products, c) {
				behind++
			}
			if keptOf(otherWayOf(products), c) {
				ahead++
			}
		}
	})
	behind.checkAtLeast(t, 10)
	ahead.checkAtLeast(t, 10)
}

func TestCongruencesOfListsThatAreNone(t *testing.T) {
	for _, list := range noSemigroups() {
		name := fmt.Sprintf(" of %v", list)
		n := len(list)
		for _, c := range [][]int{nil, {}, {0}, {0, 0}, {0, 1}, aloneOf(n), oneOf(n)} {
			checkFailsAll(t, list, c, [][]int{aloneOf(n), oneOf(n), nil, {0}})
		}
		group, ok := impl.CongruenceGroup(list)
		checkFails(t, "CongruenceGroup"+name, group, ok)
		split, ok := impl.CongruenceSplit(list)
		checkFails(t, "CongruenceSplit"+name, split, ok)
		for _, f := range append(someOf(append(slices.Clone(list), nil)), []int{0}, []int{-1}, []int{0, 1}) {
			least, ok := impl.CongruenceLeast(list, f, f)
			checkFails(t, "CongruenceLeast"+name, least, ok)
			if n > 0 {
				least, ok = impl.CongruenceLeast(list, list[0], f)
				checkFails(t, "CongruenceLeast"+name, least, ok)
			}
		}
	}
}

// TestCongruencesShareNoMemory fills the results, with all of their capacity, and looks at the arguments and at the next results.
func TestCongruencesShareNoMemory(t *testing.T) {
	calls := []struct {
		name string
		call func(list [][]int, c []int) [][]int
	}{
		{"CongruenceGroup", func(list [][]int, c []int) [][]int { group, _ := impl.CongruenceGroup(list); return [][]int{group} }},
		{"CongruenceLeast", func(list [][]int, c []int) [][]int {
			least, _ := impl.CongruenceLeast(list, list[0], list[len(list)-1])
			return [][]int{least}
		}},
		{"CongruenceSplit", func(list [][]int, c []int) [][]int { split, _ := impl.CongruenceSplit(list); return [][]int{split} }},
		{"CongruenceKernel", func(list [][]int, c []int) [][]int { kernel, _ := impl.CongruenceKernel(list, c); return kernel }},
	}
	for _, c := range calls {
		for _, list := range [][][]int{{{0}}, {{-1}}, brandt, turns, sets, twoSwaps, beside, chartsOf(3), {{0, 1, 2, 3, 4, 5}}} {
			given, numbers := withMore(list), withMore([][]int{aloneOf(len(list)), groupOf(list)})
			before, ahead := memoryOf(given), memoryOf(numbers)
			for _, told := range numbers {
				first := c.call(given, told)
				kept := clones(first)
				checkApart(t, c.name, first)
				fill(first)
				if second := c.call(given, told); !slices.EqualFunc(second, kept, slices.Equal) {
					t.Errorf("%s returned %v and then %v", c.name, kept, second)
				}
				checkUnchanged(t, c.name, memoryOf(given), before)
				checkUnchanged(t, c.name, memoryOf(numbers), ahead)
			}
		}
	}
}

// TestQuestionsOfCongruencesChangeNothing looks at the arguments of the functions whose results have no memory.
func TestQuestionsOfCongruencesChangeNothing(t *testing.T) {
	for _, list := range append(append(noSemigroups(), moreSemigroups()...), brandt, turns, sets, chartsOf(3)) {
		n := len(list)
		given, numbers := withMore(list), withMore([][]int{aloneOf(n), oneOf(n), {0, 2}})
		before, ahead := memoryOf(given), memoryOf(numbers)
		for _, c := range numbers {
			impl.CongruenceIn(given, c)
			impl.CongruenceSplits(given, c)
			impl.CongruenceSize(given, c)
			for _, d := range numbers {
				impl.CongruenceFiner(given, c, d)
			}
		}
		checkUnchanged(t, "a question", memoryOf(given), before)
		checkUnchanged(t, "a question", memoryOf(numbers), ahead)
	}
}

// TestCongruencesStay asks the same many times, as the order in which charts are gone through is not always the same.
func TestCongruencesStay(t *testing.T) {
	all := chartsOf(3)
	products := productsOf(all)
	want := leastOf(products, 30, 31)
	for range 100 {
		got, ok := impl.CongruenceLeast(all, all[30], all[31])
		checkList(t, "CongruenceLeast", got, ok, want)
		kernel, ok := impl.CongruenceKernel(all, want)
		checkLists(t, "CongruenceKernel", kernel, ok, kernelOf(all, want))
	}
}
