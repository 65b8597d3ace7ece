package tests

import (
	"slices"
	"testing"

	"loop.example/partialcharts/impl"
)

// sixth is a chart of six points with a chain, a longer cycle, and a point that stays.
var sixth = []int{2, -1, 1, 4, 3, 5}

func TestChartInTakesCharts(t *testing.T) {
	if impl.PointsMax != 6 {
		t.Errorf("PointsMax is %d", impl.PointsMax)
	}
	for _, f := range [][]int{{0}, {-1}, {1, 0}, {-1, -1}, {1, -1, 0}, {-1, 0, -1, -1}, {4, 3, 2, 1, 0}, {0, 1, 2, 3, 4, 5}, {-1, -1, -1, -1, -1, -1}, sixth} {
		checkHolds(t, "ChartIn", impl.ChartIn(f), true)
	}
	eachChart(t, func(t *testing.T, f []int) {
		checkHolds(t, "ChartIn", impl.ChartIn(f), true)
	})
}

func TestChartInRefusesOtherLists(t *testing.T) {
	for _, f := range noCharts() {
		if impl.ChartIn(f) {
			t.Errorf("ChartIn holds for %v", f)
		}
	}
}

// TestChartInTellsAllLists goes through all lists of up to four numbers, from one below to one above those of charts.
func TestChartInTellsAllLists(t *testing.T) {
	for n := 1; n <= 4; n++ {
		charts := map[[4]int]bool{}
		for _, f := range chartsOf(n) {
			charts[[4]int(append(slices.Clone(f), make([]int, 4-n)...))] = true
		}
		f := slices.Repeat([]int{-2}, n)
		for i := 0; i < n; {
			if want := charts[[4]int(append(slices.Clone(f), make([]int, 4-n)...))]; impl.ChartIn(f) != want {
				t.Fatalf("ChartIn of %v is not %v", f, want)
			}
			for i = 0; i < n; i++ {
				if f[i]++; f[i] <= n {
					break
				}
				f[i] = -2
			}
		}
	}
}

func TestChartTimes(t *testing.T) {
	for _, c := range [][3][]int{
		{{0}, {0}, {0}},
		{{0}, {-1}, {-1}},
		{{-1}, {0}, {-1}},
		{{1, -1, 0}, {1, -1, 0}, {-1, -1, 1}},
		{{1, 2, 0}, {0, 2, 1}, {2, 1, 0}},
		{{0, 2, 1}, {1, 2, 0}, {1, 0, 2}},
		{{1, -1}, {-1, 0}, {0, -1}},
		{sixth, {5, 4, 3, 2, 1, -1}, {3, -1, 4, 1, 2, -1}},
		{{-1, -1, -1, -1, -1, -1}, sixth, {-1, -1, -1, -1, -1, -1}},
	} {
		got, ok := impl.ChartTimes(c[0], c[1])
		checkList(t, "ChartTimes", got, ok, c[2])
	}
	eachPair(t, func(t *testing.T, f, g []int) {
		got, ok := impl.ChartTimes(f, g)
		checkList(t, "ChartTimes", got, ok, timesOf(f, g))
	})
}

func TestChartTurned(t *testing.T) {
	for _, c := range [][2][]int{
		{{0}, {0}},
		{{-1}, {-1}},
		{{1, -1, 0}, {2, 0, -1}},
		{{-1, -1, 0}, {2, -1, -1}},
		{{1, 2, 3, 4, 5, 0}, {5, 0, 1, 2, 3, 4}},
		{sixth, {-1, 2, 0, 4, 3, 5}},
	} {
		got, ok := impl.ChartTurned(c[0])
		checkList(t, "ChartTurned", got, ok, c[1])
	}
	eachChart(t, func(t *testing.T, f []int) {
		got, ok := impl.ChartTurned(f)
		checkList(t, "ChartTurned", got, ok, turnedOf(f))
	})
}

func TestChartDomainRangeAndRank(t *testing.T) {
	for _, c := range []struct {
		f                    []int
		domain, image, moved int
	}{
		{[]int{0}, 1, 1, 1},
		{[]int{-1}, 0, 0, 0},
		{[]int{1, -1, 0}, 5, 3, 2},
		{[]int{-1, -1, 0}, 4, 1, 1},
		{[]int{-1, -1, -1, -1, -1, -1}, 0, 0, 0},
		{[]int{-1, -1, -1, -1, -1, 0}, 32, 1, 1},
		{[]int{5, 4, 3, 2, 1, 0}, 63, 63, 6},
		{sixth, 61, 62, 5},
	} {
		set, ok := impl.ChartDomain(c.f)
		checkNumber(t, "ChartDomain", set, ok, c.domain)
		set, ok = impl.ChartRange(c.f)
		checkNumber(t, "ChartRange", set, ok, c.image)
		rank, ok := impl.ChartRank(c.f)
		checkNumber(t, "ChartRank", rank, ok, c.moved)
	}
	eachChart(t, func(t *testing.T, f []int) {
		set, ok := impl.ChartDomain(f)
		checkNumber(t, "ChartDomain", set, ok, domainOf(f))
		set, ok = impl.ChartRange(f)
		checkNumber(t, "ChartRange", set, ok, rangeOf(f))
		rank, ok := impl.ChartRank(f)
		checkNumber(t, "ChartRank", rank, ok, pointsIn(domainOf(f)))
	})
}

func TestChartSet(t *testing.T) {
	for _, c := range []struct {
		n, set int
		want   []int
	}{
		{1, 0, []int{-1}},
		{1, 1, []int{0}},
		{3, 5, []int{0, -1, 2}},
		{3, 0, []int{-1, -1, -1}},
		{6, 63, []int{0, 1, 2, 3, 4, 5}},
		{6, 32, []int{-1, -1, -1, -1, -1, 5}},
	} {
		got, ok := impl.ChartSet(c.n, c.set)
		checkList(t, "ChartSet", got, ok, c.want)
	}
	for n := 1; n <= impl.PointsMax; n++ {
		for set := range 1 << n {
			got, ok := impl.ChartSet(n, set)
			want := slices.Repeat([]int{-1}, n)
			for i := range n {
				if set>>i&1 == 1 {
					want[i] = i
				}
			}
			checkList(t, "ChartSet", got, ok, want)
		}
	}
}

func TestChartSetFails(t *testing.T) {
	for n := 1; n <= impl.PointsMax; n++ {
		for _, set := range noSets(n) {
			got, ok := impl.ChartSet(n, set)
			checkFails(t, "ChartSet", got, ok)
		}
	}
	for _, n := range noSizes() {
		for _, set := range []int{-1, 0, 1, 63} {
			got, ok := impl.ChartSet(n, set)
			checkFails(t, "ChartSet", got, ok)
		}
	}
}

func TestChartIdem(t *testing.T) {
	for _, f := range [][]int{{0}, {-1}, {0, -1, 2}, {-1, -1, -1}, {0, 1, 2, 3, 4, 5}, {-1, -1, -1, -1, -1, 5}} {
		checkHolds(t, "ChartIdem", impl.ChartIdem(f), true)
	}
	for _, f := range [][]int{{1, 0}, {1, -1}, {-1, 0}, {0, 2, -1}, {0, 1, 2, 3, 5, 4}, {-1, -1, -1, -1, -1, 4}} {
		checkHolds(t, "ChartIdem", impl.ChartIdem(f), false)
	}
	eachChart(t, func(t *testing.T, f []int) {
		checkHolds(t, "ChartIdem", impl.ChartIdem(f), idemOf(f))
		checkHolds(t, "ChartIdem", impl.ChartIdem(f), slices.Equal(timesOf(f, f), f))
	})
}

func TestChartBelow(t *testing.T) {
	for _, c := range []struct {
		f, g []int
		want bool
	}{
		{[]int{-1}, []int{0}, true},
		{[]int{0}, []int{-1}, false},
		{[]int{-1}, []int{-1}, true},
		{[]int{1, -1, 0}, []int{1, 2, 0}, true},
		{[]int{1, 2, 0}, []int{1, -1, 0}, false},
		{[]int{1, -1, -1}, []int{0, 1, 2}, false},
		{[]int{-1, -1, -1, -1, -1, -1}, sixth, true},
		{[]int{-1, -1, -1, -1, -1, 5}, sixth, true},
		{[]int{-1, -1, -1, -1, -1, 0}, sixth, false},
		{sixth, sixth, true},
	} {
		checkHolds(t, "ChartBelow", impl.ChartBelow(c.f, c.g), c.want)
	}
	eachPair(t, func(t *testing.T, f, g []int) {
		checkHolds(t, "ChartBelow", impl.ChartBelow(f, g), belowOf(f, g))
	})
}

func TestChartMeet(t *testing.T) {
	for _, c := range [][3][]int{
		{{0}, {-1}, {-1}},
		{{0}, {0}, {0}},
		{{1, 2, 0}, {1, 0, 2}, {1, -1, -1}},
		{{1, -1, 0}, {1, 2, 0}, {1, -1, 0}},
		{{-1, -1}, {-1, -1}, {-1, -1}},
		{sixth, {2, 1, -1, -1, 0, 5}, {2, -1, -1, -1, -1, 5}},
	} {
		got, ok := impl.ChartMeet(c[0], c[1])
		checkList(t, "ChartMeet", got, ok, c[2])
	}
	eachPair(t, func(t *testing.T, f, g []int) {
		got, ok := impl.ChartMeet(f, g)
		checkList(t, "ChartMeet", got, ok, meetOf(f, g))
	})
}

func TestChartCompatible(t *testing.T) {
	for _, c := range []struct {
		f, g []int
		want bool
	}{
		{[]int{0}, []int{-1}, true},
		{[]int{0, -1}, []int{-1, 1}, true},
		{[]int{0, -1}, []int{1, -1}, false}, // one point goes to two
		{[]int{0, -1}, []int{-1, 0}, false}, // two points go to one
		{[]int{1, -1, -1}, []int{-1, 2, -1}, true},
		{[]int{-1, -1}, []int{-1, -1}, true},
		{sixth, []int{-1, -1, -1, -1, -1, -1}, true},
		{sixth, []int{-1, 0, -1, -1, -1, 5}, true},
		{sixth, []int{-1, 5, -1, -1, -1, -1}, false},
	} {
		checkHolds(t, "ChartCompatible", impl.ChartCompatible(c.f, c.g), c.want)
	}
	eachPair(t, func(t *testing.T, f, g []int) {
		checkHolds(t, "ChartCompatible", impl.ChartCompatible(f, g), compatibleOf(f, g))
	})
}

func TestChartJoin(t *testing.T) {
	for _, c := range [][3][]int{
		{{0}, {-1}, {0}},
		{{-1}, {-1}, {-1}},
		{{0, -1}, {-1, 1}, {0, 1}},
		{{1, -1, -1}, {1, 2, -1}, {1, 2, -1}},
		{sixth, {-1, 0, -1, -1, -1, 5}, {2, 0, 1, 4, 3, 5}},
	} {
		got, ok := impl.ChartJoin(c[0], c[1])
		checkList(t, "ChartJoin", got, ok, c[2])
	}
	for _, c := range [][2][]int{
		{{0, -1}, {1, -1}},
		{{0, -1}, {-1, 0}},
		{{0, 1}, {1, 0}},
		{sixth, {0, 1, 2, 3, 4, 5}},
	} {
		got, ok := impl.ChartJoin(c[0], c[1])
		checkFails(t, "ChartJoin", got, ok)
	}
	eachPair(t, func(t *testing.T, f, g []int) {
		got, ok := impl.ChartJoin(f, g)
		if compatibleOf(f, g) {
			checkList(t, "ChartJoin", got, ok, joinOf(f, g))
		} else {
			checkFails(t, "ChartJoin", got, ok)
		}
	})
}

func TestChartCut(t *testing.T) {
	for _, c := range []struct {
		f    []int
		set  int
		want []int
	}{
		{[]int{0}, 0, []int{-1}},
		{[]int{0}, 1, []int{0}},
		{[]int{-1}, 1, []int{-1}},
		{[]int{1, 2, 0}, 5, []int{1, -1, 0}},
		{[]int{1, 2, -1}, 6, []int{-1, 2, -1}},
		{sixth, 63, sixth},
		{sixth, 0, []int{-1, -1, -1, -1, -1, -1}},
		{sixth, 35, []int{2, -1, -1, -1, -1, 5}},
	} {
		got, ok := impl.ChartCut(c.f, c.set)
		checkList(t, "ChartCut", got, ok, c.want)
	}
	for n := 1; n <= impl.PointsMax; n++ {
		for _, f := range sampleOf(n) {
			for set := range 1 << n {
				got, ok := impl.ChartCut(f, set)
				checkList(t, "ChartCut", got, ok, cutOf(f, set))
			}
		}
	}
}

func TestChartCutFails(t *testing.T) {
	for n := 1; n <= impl.PointsMax; n++ {
		for _, f := range sampleOf(n) {
			for _, set := range noSets(n) {
				got, ok := impl.ChartCut(f, set)
				checkFails(t, "ChartCut", got, ok)
			}
		}
	}
	for _, f := range noCharts() {
		for _, set := range []int{-1, 0, 1, 3, 63, 127} {
			got, ok := impl.ChartCut(f, set)
			checkFails(t, "ChartCut", got, ok)
		}
	}
}

func TestListsThatAreNoCharts(t *testing.T) {
	for _, f := range noCharts() {
		got, ok := impl.ChartTurned(f)
		checkFails(t, "ChartTurned", got, ok)
		set, ok := impl.ChartDomain(f)
		checkFailsNumber(t, "ChartDomain", set, ok)
		set, ok = impl.ChartRange(f)
		checkFailsNumber(t, "ChartRange", set, ok)
		rank, ok := impl.ChartRank(f)
		checkFailsNumber(t, "ChartRank", rank, ok)
		checkHolds(t, "ChartIdem", impl.ChartIdem(f), false)
		if t.Failed() {
			t.Fatalf("with the list %v", f)
		}
	}
}

func TestPairsThatDoNotMatch(t *testing.T) {
	for _, c := range badPairs() {
		f, g := c[0], c[1]
		got, ok := impl.ChartTimes(f, g)
		checkFails(t, "ChartTimes", got, ok)
		got, ok = impl.ChartMeet(f, g)
		checkFails(t, "ChartMeet", got, ok)
		got, ok = impl.ChartJoin(f, g)
		checkFails(t, "ChartJoin", got, ok)
		checkHolds(t, "ChartBelow", impl.ChartBelow(f, g), false)
		checkHolds(t, "ChartCompatible", impl.ChartCompatible(f, g), false)
		if t.Failed() {
			t.Fatalf("with the lists %v and %v", f, g)
		}
	}
}

// TestChartsShareNoMemory fills the results, with all of their capacity, and looks at the arguments and at the next results.
func TestChartsShareNoMemory(t *testing.T) {
	calls := []struct {
		name string
		call func(f, g []int) ([]int, bool)
	}{
		{"ChartTimes", impl.ChartTimes},
		{"ChartMeet", impl.ChartMeet},
		{"ChartJoin", impl.ChartJoin},
		{"ChartTurned", func(f, g []int) ([]int, bool) { return impl.ChartTurned(f) }},
		{"ChartCut", func(f, g []int) ([]int, bool) { return impl.ChartCut(f, 1<<len(f)-1) }},
		{"ChartSet", func(f, g []int) ([]int, bool) { return impl.ChartSet(len(f), 1<<len(f)-1) }},
	}
	const spare = -7
	for _, c := range calls {
		for _, pair := range [][2][]int{{{0}, {0}}, {{1, 2, -1}, {1, 2, -1}}, {{0, 1, 2}, {0, -1, -1}}, {sixth, sixth}, {{-1, -1}, {1, 0}}, {{0, 1}, {0, 1}}} {
			f := append(slices.Clone(pair[0]), spare, spare)
			g := append(slices.Clone(pair[1]), spare, spare)
			first, _ := c.call(f[:len(f)-2], g[:len(g)-2])
			kept := slices.Clone(first)
			for i := range first[:cap(first)] {
				first[:cap(first)][i] = 9
			}
			second, _ := c.call(f[:len(f)-2], g[:len(g)-2])
			if !slices.Equal(second, kept) {
				t.Errorf("%s returned %v and then %v", c.name, kept, second)
			}
			if !slices.Equal(f, append(slices.Clone(pair[0]), spare, spare)) || !slices.Equal(g, append(slices.Clone(pair[1]), spare, spare)) {
				t.Errorf("%s changed an argument or shares its memory: %v, %v", c.name, f, g)
			}
		}
	}
}

// TestQuestionsChangeNothing looks at the arguments of the functions whose results have no memory.
func TestQuestionsChangeNothing(t *testing.T) {
	for _, pair := range [][2][]int{{sixth, {0, 1, 2, 3, 4, -1}}, {{1, -1, 0}, {-1, 2, -1}}, {{0, 0}, {2, 1}}} {
		f, g := slices.Clone(pair[0]), slices.Clone(pair[1])
		impl.ChartIn(f)
		impl.ChartDomain(f)
		impl.ChartRange(f)
		impl.ChartRank(f)
		impl.ChartIdem(f)
		impl.ChartBelow(f, g)
		impl.ChartCompatible(f, g)
		if !slices.Equal(f, pair[0]) || !slices.Equal(g, pair[1]) {
			t.Errorf("the arguments %v became %v, %v", pair, f, g)
		}
	}
}
