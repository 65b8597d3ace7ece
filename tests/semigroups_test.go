package tests

import (
	"fmt"
	"slices"
	"testing"

	"loop.example/partialcharts/impl"
)

// Some semigroups: that of [1 -1], in which products differ on the two sides, a group, two of sets,
// of which one has no chart above all others, and two groups, of which one leads into the other.
var (
	brandt   = [][]int{{-1, -1}, {-1, 0}, {-1, 1}, {0, -1}, {1, -1}}
	turns    = [][]int{{0, 1, 2}, {1, 2, 0}, {2, 0, 1}}
	sets     = [][]int{{-1, -1}, {-1, 1}, {0, -1}, {0, 1}}
	topless  = [][]int{{-1, -1, 2}, {-1, 1, 2}, {0, -1, 2}}
	twoSwaps = [][]int{{-1, -1, 2, 3}, {-1, -1, 3, 2}, {0, 1, 2, 3}, {0, 1, 3, 2}}
)

func TestSemigroupIn(t *testing.T) {
	for _, list := range [][][]int{{{0}}, {{-1}}, {{-1}, {0}}, {{0, 1}, {1, 0}}, brandt, turns, sets, topless, twoSwaps} {
		checkHolds(t, fmt.Sprintf("SemigroupIn of %v", list), impl.SemigroupIn(list), true)
	}
	eachSemigroup(t, func(t *testing.T, list [][]int) {
		checkHolds(t, "SemigroupIn", impl.SemigroupIn(list), true)
	})
	for _, list := range noSemigroups() {
		checkHolds(t, fmt.Sprintf("SemigroupIn of %v", list), impl.SemigroupIn(list), false)
	}
}

// TestSemigroupInOfAllParts asks for all parts of the charts of one and two points, and for many of those of three.
func TestSemigroupInOfAllParts(t *testing.T) {
	for n := 1; n <= 2; n++ {
		all := chartsOf(n)
		for set := range 1 << len(all) {
			checkSemigroupIn(t, partOf(all, set))
		}
	}
	all := chartsOf(3)
	for set := 1; set < 1<<len(all); set = set*5/3 + 1 {
		checkSemigroupIn(t, partOf(all, set))
	}
}

// TestSemigroupInByOneChart leaves out, doubles, changes and exchanges single charts of semigroups, and adds some.
func TestSemigroupInByOneChart(t *testing.T) {
	eachSmallSemigroup(t, func(t *testing.T, list [][]int) {
		n := len(list[0])
		for i, f := range list {
			checkSemigroupIn(t, slices.Delete(slices.Clone(list), i, i+1))
			checkSemigroupIn(t, slices.Insert(slices.Clone(list), i, f))
			changed := clones(list)
			changed[i][n-1] = (f[n-1]+2)%(n+1) - 1
			checkSemigroupIn(t, changed)
			changed[i] = append(changed[i], -1)
			checkSemigroupIn(t, changed)
			swapped := slices.Clone(list)
			swapped[0], swapped[i] = swapped[i], swapped[0]
			checkSemigroupIn(t, swapped)
		}
		for _, f := range someOf(chartsOf(n)) {
			checkSemigroupIn(t, inOrderOf(append(slices.Clone(list), f)))
		}
	})
}

func checkSemigroupIn(t *testing.T, list [][]int) {
	t.Helper()
	checkHolds(t, fmt.Sprintf("SemigroupIn of %v", list), impl.SemigroupIn(list), isSemigroupOf(list))
}

func TestSemigroupOf(t *testing.T) {
	cases := []struct {
		given, want [][]int
	}{
		{[][]int{{-1}}, [][]int{{-1}}},
		{[][]int{{0}}, [][]int{{0}}},
		{[][]int{{0}, {-1}}, [][]int{{-1}, {0}}},
		{[][]int{{1, -1}}, brandt},
		{[][]int{{-1, 0}}, brandt},
		{[][]int{{0, -1}, {-1, 1}}, [][]int{{-1, -1}, {-1, 1}, {0, -1}}},
		{[][]int{{2, 0, 1}}, turns},
		{[][]int{{0, -1, 2}, {-1, 1, 2}}, topless},
		{[][]int{{0, 1, 3, 2}, {-1, -1, 2, 3}}, twoSwaps},
		{[][]int{{1, 2, 0}, {1, 0, 2}, {0, 1, -1}}, chartsOf(3)},
	}
	for _, c := range cases {
		got, ok := impl.SemigroupOf(c.given)
		checkLists(t, fmt.Sprintf("SemigroupOf of %v", c.given), got, ok, c.want)
	}
	for _, given := range someGiven() {
		got, ok := impl.SemigroupOf(given)
		checkLists(t, fmt.Sprintf("SemigroupOf of %v", given), got, ok, closureOf(given))
	}
}

// TestSemigroupOfSomeGivenTwice gives as many charts as there may be, of which only two are different.
func TestSemigroupOfSomeGivenTwice(t *testing.T) {
	f, g := []int{0, -1}, []int{-1, 1}
	got, ok := impl.SemigroupOf([][]int{f, f, g, f, g, g})
	checkLists(t, "SemigroupOf of six charts", got, ok, [][]int{{-1, -1}, {-1, 1}, {0, -1}})
	got, ok = impl.SemigroupOf([][]int{f, f, g, f, g, g, g})
	checkFailsLists(t, "SemigroupOf of seven charts", got, ok)
}

func TestSemigroupOfAtTheLimit(t *testing.T) {
	for _, given := range [][][]int{given399, given400} {
		got, ok := impl.SemigroupOf(given)
		checkLists(t, fmt.Sprintf("SemigroupOf of %v", given), got, ok, closureOf(given))
		checkHolds(t, "SemigroupIn of it", impl.SemigroupIn(got), true)
	}
	for _, given := range [][][]int{
		given401,
		{{1, 2, 3, 4, 5, 0}, {1, 0, 2, 3, 4, 5}},
		{{1, 2, 3, 4, 0}, {1, 0, 2, 3, 4}, {0, 1, 2, 3, -1}},
		append(slices.Clone(given400), []int{-1, 1, 2, 3, 4, 5}),
	} {
		got, ok := impl.SemigroupOf(given)
		checkFailsLists(t, fmt.Sprintf("SemigroupOf of %v", given), got, ok)
	}
}

func TestSemigroupOfFails(t *testing.T) {
	for _, given := range [][][]int{
		nil,
		{},
		{nil},
		{{}},
		{{0}, {}},
		{{0}, {0, 1}},
		{{0, 1}, {0}},
		{{0, 1}, {1, 0}, {0, 1, 2}},
		{{0}, {0}, {0}, {0}, {0}, {0}, {0}},
		chartsOf(2),
		chartsOf(4),
	} {
		got, ok := impl.SemigroupOf(given)
		checkFailsLists(t, fmt.Sprintf("SemigroupOf of %v", given), got, ok)
	}
	for _, bad := range noCharts() {
		good := identityOf(min(max(len(bad), 1), impl.PointsMax))
		for _, given := range [][][]int{{bad}, {bad, good}, {good, bad}, {good, good, good, good, good, bad}} {
			got, ok := impl.SemigroupOf(given)
			checkFailsLists(t, fmt.Sprintf("SemigroupOf of %v", given), got, ok)
		}
	}
}

func TestSemigroupIdems(t *testing.T) {
	got, ok := impl.SemigroupIdems(brandt)
	checkLists(t, "SemigroupIdems", got, ok, [][]int{{-1, -1}, {-1, 1}, {0, -1}})
	got, ok = impl.SemigroupIdems(turns)
	checkLists(t, "SemigroupIdems of a group", got, ok, [][]int{{0, 1, 2}})
	got, ok = impl.SemigroupIdems(twoSwaps)
	checkLists(t, "SemigroupIdems of two groups", got, ok, [][]int{{-1, -1, 2, 3}, {0, 1, 2, 3}})
	eachSemigroup(t, func(t *testing.T, list [][]int) {
		got, ok := impl.SemigroupIdems(list)
		checkLists(t, "SemigroupIdems", got, ok, keepOf(list, idemOf))
	})
}

func TestSemigroupGroup(t *testing.T) {
	for _, list := range [][][]int{{{0}}, {{-1}}, turns, {{-1, -1, -1}}, {{-1, 2, 1}, {-1, 1, 2}}} {
		checkHolds(t, fmt.Sprintf("SemigroupGroup of %v", list), impl.SemigroupGroup(inOrderOf(list)), true)
	}
	for _, list := range [][][]int{{{-1}, {0}}, brandt, sets, topless, twoSwaps} {
		checkHolds(t, fmt.Sprintf("SemigroupGroup of %v", list), impl.SemigroupGroup(list), false)
	}
	eachSemigroup(t, func(t *testing.T, list [][]int) {
		checkHolds(t, "SemigroupGroup", impl.SemigroupGroup(list), len(keepOf(list, idemOf)) == 1)
	})
}

func TestSemigroupBottom(t *testing.T) {
	got, ok := impl.SemigroupBottom(brandt)
	checkList(t, "SemigroupBottom", got, ok, []int{-1, -1})
	got, ok = impl.SemigroupBottom(topless)
	checkList(t, "SemigroupBottom", got, ok, []int{-1, -1, 2})
	got, ok = impl.SemigroupBottom([][]int{{0}})
	checkList(t, "SemigroupBottom of one chart", got, ok, []int{0})
	got, ok = impl.SemigroupBottom(turns)
	checkFails(t, "SemigroupBottom of a group of more", got, ok)
	got, ok = impl.SemigroupBottom(twoSwaps)
	checkFails(t, "SemigroupBottom of two groups", got, ok)
	eachSemigroup(t, func(t *testing.T, list [][]int) {
		got, ok := impl.SemigroupBottom(list)
		if bottoms := bottomsOf(list); len(bottoms) == 1 {
			checkList(t, "SemigroupBottom", got, ok, bottoms[0])
		} else {
			checkFails(t, "SemigroupBottom", got, ok)
		}
	})
}

func TestSemigroupIdeal(t *testing.T) {
	got, ok := impl.SemigroupIdeal(brandt, []int{1, -1})
	checkLists(t, "SemigroupIdeal with products that differ on the two sides", got, ok, brandt)
	got, ok = impl.SemigroupIdeal(brandt, []int{-1, -1})
	checkLists(t, "SemigroupIdeal of the bottom", got, ok, [][]int{{-1, -1}})
	got, ok = impl.SemigroupIdeal(sets, []int{0, -1})
	checkLists(t, "SemigroupIdeal of a set", got, ok, [][]int{{-1, -1}, {0, -1}})
	got, ok = impl.SemigroupIdeal(turns, []int{1, 2, 0})
	checkLists(t, "SemigroupIdeal in a group", got, ok, turns)
	got, ok = impl.SemigroupIdeal(twoSwaps, []int{-1, -1, 3, 2})
	checkLists(t, "SemigroupIdeal in two groups", got, ok, twoSwaps[:2])
	got, ok = impl.SemigroupIdeal(chartsOf(3), []int{-1, 2, -1})
	checkLists(t, "SemigroupIdeal in all charts", got, ok, keepOf(chartsOf(3), func(f []int) bool { return pointsIn(domainOf(f)) <= 1 }))
	eachSmallSemigroup(t, func(t *testing.T, list [][]int) {
		for _, f := range list {
			got, ok := impl.SemigroupIdeal(list, f)
			checkLists(t, fmt.Sprintf("SemigroupIdeal with %v", f), got, ok, idealOf(list, f))
		}
	})
	for _, list := range greatSemigroups() {
		for _, f := range someOf(list) {
			got, ok := impl.SemigroupIdeal(list, f)
			checkLists(t, fmt.Sprintf("SemigroupIdeal with %v", f), got, ok, idealOf(list, f))
		}
	}
}

func TestSemigroupClasses(t *testing.T) {
	cases := []struct {
		list [][]int
		want []int
	}{
		{[][]int{{0}}, []int{1, 1, 1}},
		{brandt, []int{3, 3, 5}},
		{turns, []int{1, 1, 1}},
		{sets, []int{4, 4, 4}},
		{topless, []int{3, 3, 3}},
		{twoSwaps, []int{2, 2, 2}},
		{chartsOf(2), []int{4, 4, 6}},
		{chartsOf(3), []int{8, 8, 20}},
	}
	for _, c := range cases {
		got, ok := impl.SemigroupClasses(c.list)
		checkList(t, fmt.Sprintf("SemigroupClasses of %v", c.list), got, ok, c.want)
	}
	eachSemigroup(t, func(t *testing.T, list [][]int) {
		got, ok := impl.SemigroupClasses(list)
		checkList(t, "SemigroupClasses", got, ok, classesOf(list))
	})
}

func TestSemigroupTops(t *testing.T) {
	got, ok := impl.SemigroupTops(brandt)
	checkLists(t, "SemigroupTops", got, ok, brandt[1:])
	got, ok = impl.SemigroupTops(sets)
	checkLists(t, "SemigroupTops of the sets", got, ok, [][]int{{0, 1}})
	got, ok = impl.SemigroupTops(topless)
	checkLists(t, "SemigroupTops without one above all", got, ok, topless[1:])
	got, ok = impl.SemigroupTops(turns)
	checkLists(t, "SemigroupTops of a group", got, ok, turns)
	eachSemigroup(t, func(t *testing.T, list [][]int) {
		got, ok := impl.SemigroupTops(list)
		checkLists(t, "SemigroupTops", got, ok, topsOf(list))
	})
}

func TestSemigroupAbove(t *testing.T) {
	got, ok := impl.SemigroupAbove(brandt, []int{-1, -1})
	checkLists(t, "SemigroupAbove of the bottom", got, ok, brandt)
	got, ok = impl.SemigroupAbove(brandt, []int{1, -1})
	checkLists(t, "SemigroupAbove of a top", got, ok, [][]int{{1, -1}})
	got, ok = impl.SemigroupAbove(chartsOf(2), []int{1, -1})
	checkLists(t, "SemigroupAbove in all charts", got, ok, [][]int{{1, -1}, {1, 0}})
	eachSemigroup(t, func(t *testing.T, list [][]int) {
		for _, f := range someOf(list) {
			got, ok := impl.SemigroupAbove(list, f)
			checkLists(t, fmt.Sprintf("SemigroupAbove of %v", f), got, ok, aboveOf(list, f))
		}
	})
}

func TestSemigroupUnitaryAndSwaps(t *testing.T) {
	cases := []struct {
		list           [][]int
		unitary, swaps bool
	}{
		{[][]int{{0}}, true, true},
		{[][]int{{-1}}, true, true},
		{brandt, false, false},
		{turns, true, true},
		{sets, true, true},
		{topless, true, true},
		{twoSwaps, true, true},
		// The empty chart is below all charts of a group of two.
		{[][]int{{-1, -1}, {0, 1}, {1, 0}}, false, true},
		// Each chart moves two of the points always, by which those of sets are told.
		{closureOf([][]int{{0, 1, 3, 2, 4}, {0, -1, 2, 3, 4}, {0, 1, 3, 2, -1}}), true, true},
		{closureOf([][]int{{1, 0, 3, 2}, {0, -1, 2, 3}}), true, false},
		{chartsOf(2), false, false},
		{chartsOf(3), false, false},
	}
	for _, c := range cases {
		checkHolds(t, fmt.Sprintf("SemigroupUnitary of %v", c.list), impl.SemigroupUnitary(c.list), c.unitary)
		checkHolds(t, fmt.Sprintf("SemigroupSwaps of %v", c.list), impl.SemigroupSwaps(c.list), c.swaps)
	}
	eachSemigroup(t, func(t *testing.T, list [][]int) {
		checkHolds(t, "SemigroupUnitary", impl.SemigroupUnitary(list), unitaryOf(list))
		checkHolds(t, "SemigroupSwaps", impl.SemigroupSwaps(list), swapsOf(list))
	})
}

func TestSemigroupsOfListsThatAreNone(t *testing.T) {
	for _, list := range noSemigroups() {
		name := fmt.Sprintf(" of %v", list)
		idems, ok := impl.SemigroupIdems(list)
		checkFailsLists(t, "SemigroupIdems"+name, idems, ok)
		bottom, ok := impl.SemigroupBottom(list)
		checkFails(t, "SemigroupBottom"+name, bottom, ok)
		classes, ok := impl.SemigroupClasses(list)
		checkFails(t, "SemigroupClasses"+name, classes, ok)
		tops, ok := impl.SemigroupTops(list)
		checkFailsLists(t, "SemigroupTops"+name, tops, ok)
		checkHolds(t, "SemigroupGroup"+name, impl.SemigroupGroup(list), false)
		checkHolds(t, "SemigroupUnitary"+name, impl.SemigroupUnitary(list), false)
		checkHolds(t, "SemigroupSwaps"+name, impl.SemigroupSwaps(list), false)
		for _, f := range append(someOf(append(slices.Clone(list), nil)), []int{0}, []int{-1}, []int{0, 1}) {
			ideal, ok := impl.SemigroupIdeal(list, f)
			checkFailsLists(t, "SemigroupIdeal"+name, ideal, ok)
			above, ok := impl.SemigroupAbove(list, f)
			checkFailsLists(t, "SemigroupAbove"+name, above, ok)
		}
	}
}

// TestSemigroupsWithOtherCharts gives charts that are not among those of the semigroup, and what is no chart.
func TestSemigroupsWithOtherCharts(t *testing.T) {
	eachSmallSemigroup(t, func(t *testing.T, list [][]int) {
		for _, f := range othersOf(list) {
			ideal, ok := impl.SemigroupIdeal(list, f)
			checkFailsLists(t, fmt.Sprintf("SemigroupIdeal with %v", f), ideal, ok)
			above, ok := impl.SemigroupAbove(list, f)
			checkFailsLists(t, fmt.Sprintf("SemigroupAbove of %v", f), above, ok)
		}
	})
}

// TestSemigroupsShareNoMemory fills the results, with all of their capacity, and looks at the arguments and at the next results.
func TestSemigroupsShareNoMemory(t *testing.T) {
	calls := []struct {
		name string
		call func(list [][]int, f []int) [][]int
	}{
		{"SemigroupOf", func(list [][]int, f []int) [][]int { of, _ := impl.SemigroupOf(list[:min(len(list), 6)]); return of }},
		{"SemigroupIdems", func(list [][]int, f []int) [][]int { idems, _ := impl.SemigroupIdems(list); return idems }},
		{"SemigroupBottom", func(list [][]int, f []int) [][]int { bottom, _ := impl.SemigroupBottom(list); return [][]int{bottom} }},
		{"SemigroupIdeal", func(list [][]int, f []int) [][]int { ideal, _ := impl.SemigroupIdeal(list, f); return ideal }},
		{"SemigroupClasses", func(list [][]int, f []int) [][]int {
			classes, _ := impl.SemigroupClasses(list)
			return [][]int{classes}
		}},
		{"SemigroupTops", func(list [][]int, f []int) [][]int { tops, _ := impl.SemigroupTops(list); return tops }},
		{"SemigroupAbove", func(list [][]int, f []int) [][]int { above, _ := impl.SemigroupAbove(list, f); return above }},
	}
	for _, c := range calls {
		for _, list := range [][][]int{{{0}}, brandt, turns, sets, chartsOf(3), {{0, 1, 2, 3, 4, 5}}} {
			given := withMore(list)
			before := memoryOf(given)
			f := given[len(given)-1]
			first := c.call(given, f)
			kept := clones(first)
			checkApart(t, c.name, first)
			fill(first)
			if second := c.call(given, f); !slices.EqualFunc(second, kept, slices.Equal) {
				t.Errorf("%s returned %v and then %v", c.name, kept, second)
			}
			checkUnchanged(t, c.name, memoryOf(given), before)
		}
	}
}

// checkUnchanged checks that the memory of an argument is as it was before.
func checkUnchanged(t *testing.T, name string, memory, before [][]int) {
	t.Helper()
	if !slices.EqualFunc(memory, before, slices.Equal) {
		t.Errorf("%s changed its argument or shares its memory: %v and not %v", name, memory, before)
	}
}

// withMore returns a copy of a list of lists, with more behind it and behind each list.
func withMore(lists [][]int) [][]int {
	const spare = -7
	var copied [][]int
	for _, list := range append(slices.Clone(lists), []int{spare}) {
		copied = append(copied, append(slices.Clone(list), spare, spare)[:len(list)])
	}
	return copied[:len(lists)]
}

// memoryOf copies all that lies in a list of lists and behind it.
func memoryOf(lists [][]int) [][]int {
	var memory [][]int
	for _, list := range lists[:cap(lists)] {
		memory = append(memory, slices.Clone(list[:cap(list)]))
	}
	return memory
}

// TestQuestionsOfSemigroupsChangeNothing looks at the arguments of the functions whose results have no memory.
func TestQuestionsOfSemigroupsChangeNothing(t *testing.T) {
	lists := append(noSemigroups(), brandt, turns, sets, chartsOf(3))
	for _, list := range lists {
		given := withMore(list)
		before := memoryOf(given)
		impl.SemigroupIn(given)
		impl.SemigroupGroup(given)
		impl.SemigroupUnitary(given)
		impl.SemigroupSwaps(given)
		checkUnchanged(t, "a question", memoryOf(given), before)
	}
}
