package tests

import (
	"fmt"
	"slices"
	"testing"

	"loop.example/partialcharts/impl"
)

func TestArrowJoinsAndTimes(t *testing.T) {
	cases := []struct {
		f, g []int
		// The product is nil if they do not join.
		product []int
	}{
		{[]int{-1}, []int{-1}, []int{-1}},
		{[]int{0}, []int{0}, []int{0}},
		{[]int{-1}, []int{0}, nil},
		{[]int{0}, []int{-1}, nil},
		{[]int{-1, -1, -1}, []int{-1, -1, -1}, []int{-1, -1, -1}},
		{[]int{-1, -1, -1}, []int{0, -1, -1}, nil},
		{[]int{-1, 2, -1}, []int{-1, -1, -1}, nil},
		// One way and not the other way.
		{[]int{1, -1, -1}, []int{-1, 2, -1}, []int{2, -1, -1}},
		{[]int{-1, 2, -1}, []int{1, -1, -1}, nil},
		{[]int{2, 1, -1}, []int{-1, 0, 2}, []int{2, 0, -1}},
		{[]int{-1, 0, 2}, []int{2, 1, -1}, nil},
		// Both ways.
		{[]int{1, -1}, []int{-1, 0}, []int{0, -1}},
		{[]int{-1, 0}, []int{1, -1}, []int{-1, 1}},
		{[]int{1, 0}, []int{0, 1}, []int{1, 0}},
		{[]int{1, 2, 0}, []int{1, 0, 2}, []int{0, 2, 1}},
		// The domain or the range of both, and what only has points in common.
		{[]int{1, -1}, []int{1, -1}, nil},
		{[]int{1, -1}, []int{0, -1}, nil},
		{[]int{0, 1, -1}, []int{0, 1, 2}, nil},
		{[]int{0, 1, 2}, []int{0, 1, -1}, nil},
		{[]int{1, 2, 3, 4, 5, 0}, []int{1, 2, 3, 4, 5, 0}, []int{2, 3, 4, 5, 0, 1}},
		{[]int{5, -1, -1, -1, -1, 0}, []int{0, -1, -1, -1, -1, 3}, []int{3, -1, -1, -1, -1, 0}},
	}
	for _, c := range cases {
		checkHolds(t, fmt.Sprintf("ArrowJoins of %v and %v", c.f, c.g), impl.ArrowJoins(c.f, c.g), c.product != nil)
		got, ok := impl.ArrowTimes(c.f, c.g)
		if c.product == nil {
			checkFails(t, fmt.Sprintf("ArrowTimes of %v and %v", c.f, c.g), got, ok)
		} else {
			checkList(t, fmt.Sprintf("ArrowTimes of %v and %v", c.f, c.g), got, ok, c.product)
		}
	}
	eachPair(t, func(t *testing.T, f, g []int) {
		checkHolds(t, "ArrowJoins", impl.ArrowJoins(f, g), joinsOf(f, g))
		got, ok := impl.ArrowTimes(f, g)
		if joinsOf(f, g) {
			checkList(t, "ArrowTimes", got, ok, timesOf(f, g))
		} else {
			checkFails(t, "ArrowTimes", got, ok)
		}
	})
}

func TestArrowJoinsAndTimesInvalid(t *testing.T) {
	pairs := append(badPairs(),
		// Charts of unlike numbers of points, with the range of one as the domain of the other one.
		[2][]int{{-1}, {-1, -1}},
		[2][]int{{-1, -1, -1}, {-1}},
		[2][]int{{0}, {0, -1}},
		[2][]int{{0, -1, -1}, {0}},
		[2][]int{{1, 0}, {0, 1, -1}},
		[2][]int{{0, 1, 2, 3, 4, -1}, {0, 1, 2, 3, 4}},
		[2][]int{{}, {-1}},
		[2][]int{{-1}, {}},
		[2][]int{nil, nil},
		[2][]int{{}, {}},
		[2][]int{{0, 0}, {0, -1}},
		[2][]int{{-1, 1}, {1, 1}})
	for _, pair := range pairs {
		name := fmt.Sprintf(" of %v and %v", pair[0], pair[1])
		checkHolds(t, "ArrowJoins"+name, impl.ArrowJoins(pair[0], pair[1]), false)
		got, ok := impl.ArrowTimes(pair[0], pair[1])
		checkFails(t, "ArrowTimes"+name, got, ok)
	}
}

func TestArrowObjects(t *testing.T) {
	cases := []struct {
		list [][]int
		want []int
	}{
		{[][]int{{-1}}, []int{0}},
		{[][]int{{0}}, []int{1}},
		{[][]int{{-1}, {0}}, []int{0, 1}},
		{nothing, []int{0}},
		{turns, []int{7}},
		// The charts with the domain 2 come ahead of those with the domain 1.
		{brandt, []int{0, 1, 2}},
		{sets, []int{0, 1, 2, 3}},
		{topless, []int{4, 5, 6}},
		{crossed, []int{0, 1, 2, 4}},
		{asides, []int{0, 1, 2, 4, 8}},
		{twoSwaps, []int{12, 15}},
		{branching, []int{1, 15}},
		{chartsOf(2), []int{0, 1, 2, 3}},
		{chartsOf(3), []int{0, 1, 2, 3, 4, 5, 6, 7}},
	}
	for _, c := range cases {
		got, ok := impl.ArrowObjects(c.list)
		checkList(t, fmt.Sprintf("ArrowObjects of %v", c.list), got, ok, c.want)
	}
	eachArrowsAndGreat(t, func(t *testing.T, list [][]int) {
		got, ok := impl.ArrowObjects(list)
		checkList(t, "ArrowObjects", got, ok, objectsOf(list))
	})
}

func TestArrowParts(t *testing.T) {
	cases := []struct {
		list, want [][]int
	}{
		{[][]int{{-1}}, [][]int{{0}}},
		{[][]int{{0}}, [][]int{{1}}},
		{[][]int{{-1}, {0}}, [][]int{{0}, {1}}},
		{nothing, [][]int{{0}}},
		{brandt, [][]int{{0}, {1, 2}}},
		// All are linked only where there is one object.
		{turns, [][]int{{7}}},
		// None are.
		{sets, [][]int{{0}, {1}, {2}, {3}}},
		{topless, [][]int{{4}, {5}, {6}}},
		{twoSwaps, [][]int{{12}, {15}}},
		// Several parts have several objects each.
		{asides, [][]int{{0}, {1, 2}, {4, 8}}},
		{inTurns, [][]int{{0}, {1, 4}, {2, 8}}},
		{crossed, [][]int{{0}, {1, 4}, {2}}},
		{chartsOf(2), [][]int{{0}, {1, 2}, {3}}},
		{chartsOf(3), [][]int{{0}, {1, 2, 4}, {3, 5, 6}, {7}}},
	}
	for _, c := range cases {
		got, ok := impl.ArrowParts(c.list)
		checkLists(t, fmt.Sprintf("ArrowParts of %v", c.list), got, ok, c.want)
	}
	eachArrowsAndGreat(t, func(t *testing.T, list [][]int) {
		got, ok := impl.ArrowParts(list)
		checkLists(t, "ArrowParts", got, ok, arrowPartsOf(list))
	})
}

func TestArrowLocal(t *testing.T) {
	cases := []struct {
		list      [][]int
		set, want int
	}{
		{[][]int{{-1}}, 0, 1},
		{[][]int{{0}}, 1, 1},
		{[][]int{{-1}, {0}}, 0, 1},
		{nothing, 0, 1},
		{brandt, 0, 1},
		{brandt, 2, 1},
		{turns, 7, 3},
		{sets, 3, 1},
		{twoSwaps, 12, 2},
		{twoSwaps, 15, 2},
		{branching, 1, 1},
		{branching, 15, 2},
		{chartsOf(2), 3, 2},
		{chartsOf(3), 6, 2},
		{chartsOf(3), 7, 6},
		{chartsOf(4), 15, 24},
	}
	for _, c := range cases {
		got, ok := impl.ArrowLocal(c.list, c.set)
		checkNumber(t, fmt.Sprintf("ArrowLocal of %v at %d", c.list, c.set), got, ok, c.want)
	}
	eachArrowsAndGreat(t, func(t *testing.T, list [][]int) {
		for _, set := range fewOf(objectsOf(list)) {
			got, ok := impl.ArrowLocal(list, set)
			checkNumber(t, fmt.Sprintf("ArrowLocal at %d", set), got, ok, len(arrowsOf(list, set, set)))
		}
	})
}

func TestArrowFrom(t *testing.T) {
	cases := []struct {
		list     [][]int
		from, to int
		want     [][]int
	}{
		{[][]int{{-1}}, 0, 0, [][]int{{-1}}},
		{[][]int{{0}}, 1, 1, [][]int{{0}}},
		{[][]int{{-1}, {0}}, 0, 1, nil},
		{nothing, 0, 0, nothing},
		{brandt, 1, 2, [][]int{{1, -1}}},
		{brandt, 2, 1, [][]int{{-1, 0}}},
		{brandt, 2, 2, [][]int{{-1, 1}}},
		{brandt, 0, 0, [][]int{{-1, -1}}},
		// They are not linked.
		{brandt, 0, 1, nil},
		{brandt, 1, 0, nil},
		{sets, 1, 2, nil},
		{twoSwaps, 12, 15, nil},
		{turns, 7, 7, turns},
		{chartsOf(3), 3, 6, [][]int{{1, 2, -1}, {2, 1, -1}}},
		{chartsOf(3), 6, 3, [][]int{{-1, 0, 1}, {-1, 1, 0}}},
		{chartsOf(3), 3, 3, [][]int{{0, 1, -1}, {1, 0, -1}}},
		{chartsOf(3), 1, 3, nil},
	}
	for _, c := range cases {
		got, ok := impl.ArrowFrom(c.list, c.from, c.to)
		checkLists(t, fmt.Sprintf("ArrowFrom of %v from %d to %d", c.list, c.from, c.to), got, ok, c.want)
	}
	eachArrowsAndGreat(t, func(t *testing.T, list [][]int) {
		objects := fewOf(objectsOf(list))
		for _, from := range objects {
			for _, to := range objects {
				got, ok := impl.ArrowFrom(list, from, to)
				checkLists(t, fmt.Sprintf("ArrowFrom from %d to %d", from, to), got, ok, arrowsOf(list, from, to))
			}
		}
	})
}

// TestArrowsOfNoObjects asks for sets that are no objects, and for numbers that are no sets, alone and beside objects.
func TestArrowsOfNoObjects(t *testing.T) {
	for _, list := range append(moreSemigroups(), brandt, turns, sets, topless, twoSwaps, chartsOf(2), chartsOf(3)) {
		for _, set := range noObjects(list) {
			name := fmt.Sprintf(" of %v with %d", list, set)
			local, ok := impl.ArrowLocal(list, set)
			checkFailsNumber(t, "ArrowLocal"+name, local, ok)
			from, ok := impl.ArrowFrom(list, set, set)
			checkFailsLists(t, "ArrowFrom"+name, from, ok)
			for _, object := range objectsOf(list) {
				from, ok = impl.ArrowFrom(list, object, set)
				checkFailsLists(t, fmt.Sprintf("ArrowFrom%s behind %d", name, object), from, ok)
				from, ok = impl.ArrowFrom(list, set, object)
				checkFailsLists(t, fmt.Sprintf("ArrowFrom%s ahead of %d", name, object), from, ok)
			}
		}
	}
}

func TestGermSame(t *testing.T) {
	cases := []struct {
		list [][]int
		f, g []int
		p    int
		want bool
	}{
		{[][]int{{0}}, []int{0}, []int{0}, 0, true},
		{[][]int{{-1}, {0}}, []int{0}, []int{0}, 0, true},
		{[][]int{{-1}, {0}}, []int{-1}, []int{0}, 0, false},
		// The chart that moves nothing is below all, but does not move the point.
		{[][]int{{-1}}, []int{-1}, []int{-1}, 0, false},
		{nothing, nothing[0], nothing[0], 1, false},
		{brandt, []int{0, -1}, []int{1, -1}, 0, false},
		{brandt, []int{1, -1}, []int{1, -1}, 0, true},
		{brandt, []int{1, -1}, []int{1, -1}, 1, false},
		{brandt, []int{1, -1}, []int{-1, 1}, 0, false},
		{brandt, []int{-1, 1}, []int{1, -1}, 0, false},
		{[][]int{{-1, -1, -1}, {0, 1, 2}, {0, 2, 1}}, []int{0, 1, 2}, []int{0, 2, 1}, 0, false},
		// One is below the other one, or one more below both, which moves the point.
		{chartsOf(2), []int{1, -1}, []int{1, 0}, 0, true},
		{chartsOf(2), []int{1, 0}, []int{1, -1}, 0, true},
		{chartsOf(3), []int{1, 2, 0}, []int{1, 0, 2}, 0, true},
		{chartsOf(3), []int{1, 2, 0}, []int{1, 0, 2}, 1, false},
		// The same germ at one point, and not at another one, although this is moved to the same point.
		{branching, []int{0, 1, 2, 3}, []int{0, 1, 3, 2}, 0, true},
		{branching, []int{0, 1, 2, 3}, []int{0, 1, 3, 2}, 1, false},
		{branching, []int{0, 1, 2, 3}, []int{0, 1, 3, 2}, 2, false},
		{branching, []int{0, -1, -1, -1}, []int{0, 1, 3, 2}, 0, true},
		{branching, []int{0, -1, -1, -1}, []int{0, 1, 3, 2}, 1, false},
		// Both move the point to the same one, and there is nothing below.
		{[][]int{{0, 1, 2}, {0, 2, 1}}, []int{0, 1, 2}, []int{0, 2, 1}, 0, false},
		// A chart that is not in the list, although another one is below it.
		{branching, []int{0, 2, 1, 3}, []int{0, 1, 2, 3}, 0, false},
		{branching, []int{0, 1, 2, 3}, []int{0, 1, 2, -1}, 0, false},
		{branching, []int{0, 2, 1, 3}, []int{0, 2, 1, 3}, 0, false},
	}
	for _, c := range cases {
		name := fmt.Sprintf("GermSame of %v in %v and %v at %d", c.f, c.list, c.g, c.p)
		checkHolds(t, name, impl.GermSame(c.list, c.f, c.g, c.p), c.want)
	}
	eachArrows(t, func(t *testing.T, list [][]int) {
		checkGermSame(t, list, fewOf(list))
	})
	checkGermSame(t, chartsOf(4), someOf(chartsOf(4)))
	for _, list := range append(moreSemigroups(), chartsOf(3)) {
		checkGermSame(t, list, list)
	}
}

func checkGermSame(t *testing.T, list, some [][]int) {
	t.Helper()
	for p := range list[0] {
		for _, f := range some {
			for _, g := range some {
				name := fmt.Sprintf("GermSame of %v and %v at %d", f, g, p)
				checkHolds(t, name, impl.GermSame(list, f, g, p), germSameOf(list, f, g, p))
			}
		}
	}
}

// TestGermSameWithOtherCharts gives charts that are not among those of the semigroup, and what is no chart.
func TestGermSameWithOtherCharts(t *testing.T) {
	for _, list := range append(moreSemigroups(), brandt, turns, sets, topless, twoSwaps, chartsOf(2)) {
		for _, g := range othersOf(list) {
			for p := range list[0] {
				name := fmt.Sprintf("GermSame in %v with %v at %d", list, g, p)
				checkHolds(t, name, impl.GermSame(list, g, g, p), false)
				for _, f := range someOf(list) {
					checkHolds(t, name, impl.GermSame(list, f, g, p), false)
					checkHolds(t, name, impl.GermSame(list, g, f, p), false)
				}
			}
		}
	}
}

func TestGermCountAndPlaces(t *testing.T) {
	cases := []struct {
		list     [][]int
		p, count int
		places   []int
	}{
		{[][]int{{0}}, 0, 1, []int{0}},
		{[][]int{{-1}, {0}}, 0, 1, []int{0}},
		{[][]int{{-1}}, 0, 0, nil},
		{nothing, 0, 0, nil},
		{nothing, 2, 0, nil},
		{brandt, 0, 2, []int{0, 1}},
		{brandt, 1, 2, []int{0, 1}},
		{turns, 1, 3, []int{0, 1, 2}},
		{sets, 1, 1, []int{1}},
		{topless, 2, 1, []int{2}},
		{twoSwaps, 0, 2, []int{0}},
		{twoSwaps, 3, 2, []int{2, 3}},
		{crossed, 0, 2, []int{0, 2}},
		{crossed, 1, 1, []int{1}},
		{asides, 3, 2, []int{2, 3}},
		{branching, 0, 1, []int{0}},
		{branching, 1, 2, []int{1}},
		{branching, 2, 2, []int{2, 3}},
		{[][]int{{0, 1, 2}, {0, 2, 1}}, 0, 2, []int{0}},
		{[][]int{{0, -1, -1}, {0, 1, 2}, {0, 2, 1}}, 0, 1, []int{0}},
		{[][]int{{-1, -1, -1}, {0, 1, 2}, {0, 2, 1}}, 0, 2, []int{0}},
		{[][]int{{-1, 1, -1}, {-1, 1, 2}, {0, 1, -1}, {0, 1, 2}}, 0, 1, []int{0}},
		// No chart moves the point.
		{closureOf([][]int{{1, -1, -1}}), 2, 0, nil},
		{closureOf([][]int{{-1, -1, 0, -1, -1, -1}}), 5, 0, nil},
		{chartsOf(2), 0, 2, []int{0, 1}},
		{chartsOf(3), 2, 3, []int{0, 1, 2}},
		{closureOf([][]int{{1, 2, 0}, {1, 0, 2}}), 0, 6, []int{0, 1, 2}},
	}
	for _, c := range cases {
		count, ok := impl.GermCount(c.list, c.p)
		checkNumber(t, fmt.Sprintf("GermCount of %v at %d", c.list, c.p), count, ok, c.count)
		places, ok := impl.GermPlaces(c.list, c.p)
		checkList(t, fmt.Sprintf("GermPlaces of %v at %d", c.list, c.p), places, ok, c.places)
	}
	eachArrowsAndGreat(t, func(t *testing.T, list [][]int) {
		for p := range list[0] {
			count, ok := impl.GermCount(list, p)
			checkNumber(t, fmt.Sprintf("GermCount at %d", p), count, ok, len(germsOf(list, p)))
			places, ok := impl.GermPlaces(list, p)
			checkList(t, fmt.Sprintf("GermPlaces at %d", p), places, ok, placesOf(list, p))
		}
	})
}

// TestGermsOfNoPoints asks for germs at numbers that are no points.
func TestGermsOfNoPoints(t *testing.T) {
	for _, list := range append(moreSemigroups(), brandt, turns, sets, topless, twoSwaps, chartsOf(2), chartsOf(3)) {
		for _, p := range noPoints(len(list[0])) {
			name := fmt.Sprintf(" of %v at %d", list, p)
			count, ok := impl.GermCount(list, p)
			checkFailsNumber(t, "GermCount"+name, count, ok)
			places, ok := impl.GermPlaces(list, p)
			checkFails(t, "GermPlaces"+name, places, ok)
			for _, f := range someOf(list) {
				checkHolds(t, "GermSame"+name, impl.GermSame(list, f, f, p), false)
			}
		}
	}
}

func TestArrowsOfListsThatAreNone(t *testing.T) {
	for _, list := range noSemigroups() {
		name := fmt.Sprintf(" of %v", list)
		objects, ok := impl.ArrowObjects(list)
		checkFails(t, "ArrowObjects"+name, objects, ok)
		parts, ok := impl.ArrowParts(list)
		checkFailsLists(t, "ArrowParts"+name, parts, ok)
		for _, set := range []int{-1, 0, 1, 2, 3, 7, 15, 63, 64} {
			local, ok := impl.ArrowLocal(list, set)
			checkFailsNumber(t, "ArrowLocal"+name, local, ok)
			for _, to := range []int{-1, 0, set} {
				from, ok := impl.ArrowFrom(list, set, to)
				checkFailsLists(t, "ArrowFrom"+name, from, ok)
			}
		}
		for _, p := range []int{-1, 0, 1, 5, 6} {
			count, ok := impl.GermCount(list, p)
			checkFailsNumber(t, "GermCount"+name, count, ok)
			places, ok := impl.GermPlaces(list, p)
			checkFails(t, "GermPlaces"+name, places, ok)
			for _, f := range append(someOf(append(slices.Clone(list), nil)), []int{0}, []int{-1}, []int{0, 1}) {
				checkHolds(t, "GermSame"+name, impl.GermSame(list, f, f, p), false)
			}
		}
	}
}

// TestArrowsShareNoMemory fills the results, with all of their capacity, and looks at the arguments and at the next results.
func TestArrowsShareNoMemory(t *testing.T) {
	calls := []struct {
		name string
		call func(list [][]int, f []int) [][]int
	}{
		{"ArrowTimes", func(list [][]int, f []int) [][]int {
			product, _ := impl.ArrowTimes(f, turnedOf(f))
			return [][]int{product}
		}},
		{"ArrowTimes of two of one list", func(list [][]int, f []int) [][]int {
			product, _ := impl.ArrowTimes(list[0], list[0])
			return [][]int{product}
		}},
		{"ArrowObjects", func(list [][]int, f []int) [][]int { objects, _ := impl.ArrowObjects(list); return [][]int{objects} }},
		{"ArrowParts", func(list [][]int, f []int) [][]int { parts, _ := impl.ArrowParts(list); return parts }},
		{"ArrowFrom", func(list [][]int, f []int) [][]int {
			from, _ := impl.ArrowFrom(list, domainOf(f), rangeOf(f))
			return from
		}},
		{"GermPlaces", func(list [][]int, f []int) [][]int { places, _ := impl.GermPlaces(list, 0); return [][]int{places} }},
	}
	for _, c := range calls {
		for _, list := range [][][]int{{{0}}, {{-1}}, brandt, turns, sets, asides, branching, chartsOf(3), {{0, 1, 2, 3, 4, 5}}} {
			given := withMore(list)
			before := memoryOf(given)
			f := given[len(given)-1]
			first := c.call(given, f)
			kept := clones(first)
			checkApart(t, c.name, first)
			fill(first)
			if second := c.call(given, f); !slices.EqualFunc(second, kept, slices.Equal) {
				t.Errorf("%s returned %v and then %v", c.name, kept, second)
			}
			checkUnchanged(t, c.name, memoryOf(given), before)
		}
	}
}

// TestQuestionsOfArrowsChangeNothing looks at the arguments of the functions whose results have no memory.
func TestQuestionsOfArrowsChangeNothing(t *testing.T) {
	for _, list := range append(append(noSemigroups(), moreSemigroups()...), brandt, turns, sets, chartsOf(3)) {
		if len(list) == 0 {
			continue
		}
		given := withMore(list)
		before := memoryOf(given)
		f, g := given[0], given[len(given)-1]
		impl.ArrowJoins(f, g)
		impl.ArrowJoins(g, g)
		impl.ArrowLocal(given, 0)
		impl.ArrowLocal(given, 1<<len(f)-1)
		impl.GermSame(given, f, g, 0)
		impl.GermSame(given, g, g, 0)
		impl.GermCount(given, 0)
		checkUnchanged(t, "a question", memoryOf(given), before)
	}
}

// TestGermCountStays counts the same germs many times, as the order in which they are counted is not always the same.
func TestGermCountStays(t *testing.T) {
	group := closureOf([][]int{{1, 2, 3, 4, 5, 0}, {5, 4, 3, 2, 1, 0}})
	for range 300 {
		for p := range 6 {
			got, ok := impl.GermCount(group, p)
			checkNumber(t, "GermCount of a group of 12", got, ok, 12)
		}
	}
}
