package tests

import (
	"slices"
	"sync"
	"testing"

	"loop.example/partialcharts/impl"
)

// The next functions say what the document says of semigroups, without the program.

// isSemigroupOf reports whether a list of lists is a semigroup.
func isSemigroupOf(list [][]int) bool {
	if len(list) < 1 || len(list) > impl.SizeMax {
		return false
	}
	for i, f := range list {
		if !isChartOf(f) || len(f) != len(list[0]) || i > 0 && slices.Compare(list[i-1], f) >= 0 {
			return false
		}
	}
	keys := keysOf(list)
	for _, f := range list {
		if !keys[keyOf(turnedOf(f))] {
			return false
		}
		for _, g := range list {
			if !keys[keyOf(timesOf(f, g))] {
				return false
			}
		}
	}
	return true
}

// isChartOf reports whether a list is a chart.
func isChartOf(f []int) bool {
	for i, to := range f {
		if to < -1 || to >= len(f) || to >= 0 && slices.Contains(f[:i], to) {
			return false
		}
	}
	return len(f) >= 1 && len(f) <= impl.PointsMax
}

// keysOf returns charts as keys of a map.
func keysOf(list [][]int) map[[impl.PointsMax + 1]int]bool {
	keys := map[[impl.PointsMax + 1]int]bool{}
	for _, f := range list {
		keys[keyOf(f)] = true
	}
	return keys
}

// inOrderOf returns charts in the order of their lists, each once.
func inOrderOf(list [][]int) [][]int {
	list = slices.Clone(list)
	slices.SortFunc(list, slices.Compare[[]int])
	return slices.CompactFunc(list, slices.Equal[[]int])
}

// closureOf adds the turned charts and all products to charts, as long as there are new ones,
// and returns them in the order of their lists.
func closureOf(given [][]int) [][]int {
	list := inOrderOf(given)
	for {
		more := slices.Clone(list)
		keys := keysOf(list)
		add := func(f []int) {
			if !keys[keyOf(f)] {
				keys[keyOf(f)] = true
				more = append(more, f)
			}
		}
		for _, f := range list {
			add(turnedOf(f))
			for _, g := range list {
				add(timesOf(f, g))
			}
		}
		if len(more) == len(list) {
			return list
		}
		list = inOrderOf(more)
	}
}

// keepOf returns the charts of a list for which something holds.
func keepOf(list [][]int, holds func(f []int) bool) [][]int {
	var kept [][]int
	for _, f := range list {
		if holds(f) {
			kept = append(kept, f)
		}
	}
	return kept
}

// aboveOf returns the charts of a list above one of them.
func aboveOf(list [][]int, f []int) [][]int {
	return keepOf(list, func(g []int) bool { return belowOf(f, g) })
}

// bottomsOf returns the charts of a list that are below all.
func bottomsOf(list [][]int) [][]int {
	return keepOf(list, func(f []int) bool {
		return !slices.ContainsFunc(list, func(g []int) bool { return !belowOf(f, g) })
	})
}

// topsOf returns the charts of a list that are below no other one.
func topsOf(list [][]int) [][]int {
	return keepOf(list, func(f []int) bool {
		return !slices.ContainsFunc(list, func(g []int) bool { return belowOf(f, g) && !slices.Equal(f, g) })
	})
}

// idealOf returns a chart of a semigroup with its products with all charts before it, behind it, and on both sides.
func idealOf(list [][]int, f []int) [][]int {
	ideal := [][]int{f}
	for _, g := range list {
		before := timesOf(g, f)
		ideal = append(ideal, before, timesOf(f, g))
		for _, h := range list {
			ideal = append(ideal, timesOf(before, h))
		}
	}
	return inOrderOf(ideal)
}

// classesOf counts the domains, the ranges and the pairs of both.
func classesOf(list [][]int) []int {
	domains, ranges, pairs := map[int]bool{}, map[int]bool{}, map[[2]int]bool{}
	for _, f := range list {
		domains[domainOf(f)] = true
		ranges[rangeOf(f)] = true
		pairs[[2]int{domainOf(f), rangeOf(f)}] = true
	}
	return []int{len(domains), len(ranges), len(pairs)}
}

// unitaryOf reports whether what is above those that move no point to another one does not either.
func unitaryOf(list [][]int) bool {
	for _, e := range list {
		for _, f := range list {
			if idemOf(e) && belowOf(e, f) && !idemOf(f) {
				return false
			}
		}
	}
	return true
}

// swapsOf reports whether those that move no point to another one have the same products both ways.
func swapsOf(list [][]int) bool {
	for _, e := range list {
		for _, f := range list {
			if idemOf(e) && !slices.Equal(timesOf(e, f), timesOf(f, e)) {
				return false
			}
		}
	}
	return true
}

// Charts whose semigroups have just so many charts as their names tell: at the limit and beside it.
var (
	given399 = [][]int{{1, 2, 0, -1, 5, 4}, {4, 0, -1, 2, -1, 3}}
	given400 = [][]int{{0, -1, 2, 3, -1, -1}, {5, 1, 4, 0, 2, 3}, {3, -1, 1, 0, 4, 5}}
	given401 = [][]int{{0, 5, 2, 1, 4, 3}, {-1, 4, 0, 5, 2, -1}}
)

// someGiven lists lists of 1 to 6 charts with few products.
func someGiven() [][][]int {
	given := [][][]int{
		{{1, 2, 3, 4, 5, 0}},
		{{1, 0, 3, 2, 5, 4}, {0, 1, 2, 3, 4, 5}},
		{{1, 0, 2, 3, 4, 5}, {0, 1, 3, 2, 4, 5}, {0, 1, 2, 3, 5, 4}},
		{{1, 2, 3, 4, -1, -1}},
		{{1, 2, 0, 4, -1, -1}},
		{{1, 2, 0, 4, 3, -1}, {0, 1, 2, -1, -1, -1}},
		{{0, 1, -1, -1, -1}, {-1, 1, 2, -1, -1}, {-1, -1, -1, 3, 4}, {0, -1, -1, -1, 4}},
		{{-1, -1, -1, -1, -1, -1}},
		{{0, 1, 2, 3, 4, 5}},
		{{1, 2, 0, 3}, {1, 0, 3, 2}},
		{{2, 3, -1, -1}, {1, 0, -1, -1}},
		{{1, -1, -1, -1}, {0, 1, 3, 2}},
		{{0, 1, 2, -1, -1, -1}, {0, 1, -1, 3, -1, -1}, {0, -1, 2, 3, -1, -1}, {-1, 1, 2, 3, -1, -1}},
	}
	for n := 1; n <= 4; n++ {
		for _, f := range chartsOf(n) {
			given = append(given, [][]int{f})
		}
	}
	for n := 1; n <= 3; n++ {
		all := chartsOf(n)
		for i, f := range all {
			for _, g := range all[i+1:] {
				given = append(given, [][]int{f, g})
			}
		}
	}
	few := chartsOf(2)
	for set := 1; set < 1<<len(few); set++ {
		if some := partOf(few, set); len(some) <= 6 {
			given = append(given, some)
		}
	}
	return given
}

// partOf returns the elements of a list whose places are in a set.
func partOf(list [][]int, set int) [][]int {
	var part [][]int
	for i, f := range list {
		if set>>i&1 == 1 {
			part = append(part, f)
		}
	}
	return part
}

// smallSemigroups lists semigroups of few charts, each once, made without the program.
var smallSemigroups = sync.OnceValue(func() [][][]int {
	semigroups := [][][]int{chartsOf(1), chartsOf(2), chartsOf(3)}
	for _, given := range someGiven() {
		semigroups = append(semigroups, closureOf(given))
	}
	compare := func(a, b [][]int) int { return slices.CompareFunc(a, b, slices.Compare[[]int]) }
	slices.SortFunc(semigroups, compare)
	return slices.CompactFunc(semigroups, func(a, b [][]int) bool { return compare(a, b) == 0 })
})

// greatSemigroups lists semigroups of many charts, made without the program.
var greatSemigroups = sync.OnceValue(func() [][][]int {
	return [][][]int{chartsOf(4), closureOf(given400)}
})

// eachSemigroup checks something for every one of the small semigroups and of the great ones.
func eachSemigroup(t *testing.T, check func(t *testing.T, list [][]int)) {
	t.Helper()
	eachSmallSemigroup(t, check)
	for _, list := range greatSemigroups() {
		check(t, list)
		if t.Failed() {
			t.Fatalf("with the semigroup of %d charts of %d points", len(list), len(list[0]))
		}
	}
}

// eachSmallSemigroup checks something for every one of the small semigroups.
func eachSmallSemigroup(t *testing.T, check func(t *testing.T, list [][]int)) {
	t.Helper()
	for _, list := range smallSemigroups() {
		check(t, list)
		if t.Failed() {
			t.Fatalf("with the semigroup %v", list)
		}
	}
}

// someOf returns all charts of a short list, and some of a long one, the first and the last among them.
func someOf(list [][]int) [][]int {
	var some [][]int
	step := len(list)/40*8 + 1
	for i := 0; i < len(list); i += step {
		some = append(some, list[i])
	}
	return append(some, list[len(list)-1])
}

// othersOf returns lists that are no charts of a semigroup: charts of as many points, what is no chart, and charts of it with one point more or less.
func othersOf(list [][]int) [][]int {
	n := len(list[0])
	keys := keysOf(list)
	others := slices.DeleteFunc(someOf(chartsOf(n)), func(f []int) bool { return keys[keyOf(f)] })
	others = append(others, noCharts()...)
	longer := append(slices.Clone(list[0]), -1)
	return append(others, longer, list[0][:n-1], append(slices.Clone(list[0]), n))
}

// noSemigroups are lists of lists that are no semigroups.
func noSemigroups() [][][]int {
	none := [][][]int{
		nil,
		{},
		{nil},
		{{}},
		{{}, {}},
		{{-1}, {}},
		{{-1}, {-1}},
		{{0}, {0}},
		{{0}, {-1}},
		{{-1}, {0}, {0}},
		{{-1}, {0}, {-1}},
		{{0, 1}, {1, 0}, {1, 0}},
		{{-1}, {0, 1}},
		{{-1, -1}, {0}},
		{{0}, {0, 1}},
		{{0, 1}, {0, 1, 2}},
		// Without the product, without the turned chart, without both.
		{{-1, 0}, {-1, 1}, {0, -1}, {1, -1}},
		{{1, 0}},
		{{1, 2, 0}, {2, 0, 1}},
		{{0, 1, 2}, {1, 2, 0}},
		{{-1, -1}, {1, -1}},
		{{-1, -1}, {-1, 0}},
		{{-1, -1}, {-1, 0}, {1, -1}},
		{{-1, -1}, {-1, 0}, {0, -1}, {1, -1}},
		{{-1, -1}, {-1, 0}, {-1, 1}, {1, -1}},
		{{-1, 1}, {0, -1}},
		{{-1, 1}, {0, -1}, {0, 1}},
		// All of them, but in another order.
		{{0, 1}, {-1, -1}},
		{{0, 1, 2}, {2, 0, 1}, {1, 2, 0}},
		{{-1, -1}, {-1, 1}, {-1, 0}, {0, -1}, {1, -1}},
		closureOf(given401),
		chartsOf(5),
	}
	for _, bad := range noCharts() {
		none = append(none, [][]int{bad}, [][]int{bad, {0}}, [][]int{{0}, bad}, [][]int{{0, 1}, {1, 0}, bad})
	}
	return none
}
