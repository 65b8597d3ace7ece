package tests

import (
	"math"
	"slices"
	"strconv"
	"testing"

	"loop.example/partialcharts/impl"
)

// someWays are charts with their ways, those of one point and of six among them.
func someWays() []struct {
	f              []int
	chains, cycles [][]int
} {
	return []struct {
		f              []int
		chains, cycles [][]int
	}{
		{[]int{-1}, [][]int{{0}}, nil},
		{[]int{0}, nil, [][]int{{0}}},
		{[]int{-1, -1}, [][]int{{0}, {1}}, nil},
		{[]int{-1, 1}, [][]int{{0}}, [][]int{{1}}},
		{[]int{0, -1}, [][]int{{1}}, [][]int{{0}}},
		{[]int{1, -1}, [][]int{{0, 1}}, nil},
		{[]int{-1, 0}, [][]int{{1, 0}}, nil},
		{[]int{1, 0}, nil, [][]int{{0, 1}}},
		{[]int{1, -1, 0}, [][]int{{2, 0, 1}}, nil},
		{[]int{-1, 2, 1}, [][]int{{0}}, [][]int{{1, 2}}},
		{[]int{1, 0, -1}, [][]int{{2}}, [][]int{{0, 1}}},
		{[]int{2, 0, 1}, nil, [][]int{{0, 2, 1}}},
		{[]int{-1, 3, -1, -1}, [][]int{{0}, {1, 3}, {2}}, nil},
		{[]int{-1, 3, 0, -1}, [][]int{{1, 3}, {2, 0}}, nil},
		{sixth, [][]int{{0, 2, 1}}, [][]int{{3, 4}, {5}}},
		{[]int{-1, 0, 1, 2, 3, 4}, [][]int{{5, 4, 3, 2, 1, 0}}, nil},
		{[]int{3, 5, 4, 2, 1, -1}, [][]int{{0, 3, 2, 4, 1, 5}}, nil},
		{[]int{5, 0, 1, 2, 3, 4}, nil, [][]int{{0, 5, 4, 3, 2, 1}}},
		{[]int{5, 4, 3, 2, 1, 0}, nil, [][]int{{0, 5}, {1, 4}, {2, 3}}},
		{[]int{0, 1, 2, 3, 4, 5}, nil, [][]int{{0}, {1}, {2}, {3}, {4}, {5}}},
		{[]int{-1, -1, -1, -1, -1, -1}, [][]int{{0}, {1}, {2}, {3}, {4}, {5}}, nil},
		{[]int{2, 1, 0, -1, 5, -1}, [][]int{{3}, {4, 5}}, [][]int{{0, 2}, {1}}},
	}
}

func TestWaysOf(t *testing.T) {
	for _, c := range someWays() {
		got, ok := impl.WaysOf(c.f)
		checkLists(t, "WaysOf", got, ok, slices.Concat(c.chains, c.cycles))
	}
	eachChart(t, func(t *testing.T, f []int) {
		got, ok := impl.WaysOf(f)
		checkHolds(t, "WaysOf", ok, true)
		checkWays(t, f, got)
	})
}

func TestWaysChart(t *testing.T) {
	for _, c := range someWays() {
		got, ok := impl.WaysChart(len(c.f), c.chains, c.cycles)
		checkList(t, "WaysChart", got, ok, c.f)
	}
}

// TestWaysChartInAnyOrder tells the ways in other orders, and the cycles from other points on, than WaysOf does.
func TestWaysChartInAnyOrder(t *testing.T) {
	for _, c := range []struct {
		chains, cycles [][]int
		want           []int
	}{
		{[][]int{{1}, {0}}, [][]int{}, []int{-1, -1}},
		{[][]int{}, [][]int{{1, 0}}, []int{1, 0}},
		{[][]int{}, [][]int{{2, 0, 1}}, []int{1, 2, 0}},
		{[][]int{{0, 1}}, [][]int{{2}}, []int{1, -1, 2}},
		{[][]int{{5, 4}, {1, 0}}, [][]int{{3, 2}}, []int{-1, 0, 3, 2, -1, 4}},
	} {
		got, ok := impl.WaysChart(len(c.want), c.chains, c.cycles)
		checkList(t, "WaysChart", got, ok, c.want)
	}
	eachChart(t, func(t *testing.T, f []int) {
		ways := must[[][]int](t, "WaysOf")(impl.WaysOf(f))
		chains, cycles := kindsOf(f, clones(ways))
		for i, cycle := range cycles {
			half := len(cycle) / 2
			cycles[i] = slices.Concat(cycle[half:], cycle[:half])
		}
		slices.Reverse(chains)
		slices.Reverse(cycles)
		got, ok := impl.WaysChart(len(f), chains, cycles)
		checkList(t, "WaysChart", got, ok, f)
	})
}

func TestWaysChartFails(t *testing.T) {
	for _, c := range []struct {
		n              int
		chains, cycles [][]int
	}{
		{1, nil, nil},
		{1, [][]int{}, [][]int{}},
		{1, [][]int{{}}, nil},
		{1, nil, [][]int{{}}},
		{1, [][]int{{0}, {}}, nil},
		{1, [][]int{{0}}, [][]int{nil}},
		{1, [][]int{{}, {0}}, nil},
		{1, nil, [][]int{{0}, nil}},
		{1, [][]int{{0}}, [][]int{{0}}},
		{1, [][]int{{0, 0}}, nil},
		{1, nil, [][]int{{0, 0}}},
		{1, [][]int{{1}}, nil},
		{1, [][]int{{-1}}, nil},
		{1, [][]int{{0, 1}}, nil},
		{1, nil, [][]int{{-1, 0}}},
		{2, [][]int{{0}}, nil},
		{2, nil, [][]int{{1}}},
		{2, [][]int{{0, 1}, {1}}, nil},
		{2, [][]int{{0, 1}}, [][]int{{1}}},
		{2, [][]int{{0}}, [][]int{{2}}},
		{3, [][]int{{0}}, [][]int{{2}}},
		{3, [][]int{{0}, {1}}, [][]int{{3}}},
		{3, [][]int{{0}, {1}}, [][]int{{2, 64}}},
		{3, [][]int{{0, 1, 2}, {math.MinInt}}, nil},
		{3, [][]int{{0, 1, 2}, {math.MaxInt}}, nil},
		{6, [][]int{{0, 1, 2}}, [][]int{{3, 4}}},
		{6, [][]int{{0, 1, 2, 5}}, [][]int{{3, 4, 5}}},
		{6, nil, [][]int{{0, 1, 2, 3, 4, 5, 0}}},
		{6, nil, [][]int{{0, 1, 2, 3, 4, 5, 6}}},
		{6, [][]int{{0, 1, 2, 3, 4, 5}}, [][]int{{6}}},
		{6, [][]int{{0, 1, 2, 3, 4, 6}}, nil},
	} {
		got, ok := impl.WaysChart(c.n, c.chains, c.cycles)
		checkFails(t, "WaysChart", got, ok)
		if t.Failed() {
			t.Fatalf("with %v", c)
		}
	}
	for _, n := range noSizes() {
		for _, chains := range [][][]int{nil, {{}}, {{0}}, {{0}, {1}}, {{0, 1, 2, 3, 4, 5}}, {{0, 1, 2, 3, 4, 5, 6}}} {
			got, ok := impl.WaysChart(n, chains, nil)
			checkFails(t, "WaysChart", got, ok)
			got, ok = impl.WaysChart(n, nil, chains)
			checkFails(t, "WaysChart", got, ok)
		}
	}
}

// TestWaysChartFailsByOnePoint spoils the ways of each chart: one point fewer, one twice, one more, one way empty.
func TestWaysChartFailsByOnePoint(t *testing.T) {
	fails := func(t *testing.T, n int, chains, cycles [][]int) {
		t.Helper()
		got, ok := impl.WaysChart(n, chains, cycles)
		checkFails(t, "WaysChart", got, ok)
	}
	eachChart(t, func(t *testing.T, f []int) {
		n := len(f)
		ways := must[[][]int](t, "WaysOf")(impl.WaysOf(f))
		chains, cycles := kindsOf(f, ways)
		fails(t, n+1, chains, cycles)
		fails(t, n-1, chains, cycles)
		fails(t, n, append(clones(chains), []int{}), cycles)
		fails(t, n, chains, append(clones(cycles), []int{}))
		fails(t, n, append(clones(chains), []int{n - 1}), cycles)
		fails(t, n, chains, append(clones(cycles), []int{0}))
		fails(t, n, append(clones(chains), []int{n}), cycles)
		fails(t, n, chains, append(clones(cycles), []int{-1}))
		if len(chains) > 0 {
			fails(t, n, chains[1:], cycles)
		}
		if len(cycles) > 0 {
			fails(t, n, chains, cycles[1:])
		}
	})
}

func TestWaysShape(t *testing.T) {
	for _, c := range []struct{ f, chains, cycles []int }{
		{[]int{-1}, []int{1}, nil},
		{[]int{0}, nil, []int{1}},
		{[]int{1, -1, 0}, []int{3}, nil},
		{[]int{1, 0, 2}, nil, []int{1, 2}},
		{[]int{2, 1, 0}, nil, []int{1, 2}},
		{[]int{1, -1, -1}, []int{1, 2}, nil},
		{[]int{-1, 3, -1, -1}, []int{1, 1, 2}, nil},
		{sixth, []int{3}, []int{1, 2}},
		{[]int{-1, 0, 1, 2, 3, 4}, []int{6}, nil},
		{[]int{5, 0, 1, 2, 3, 4}, nil, []int{6}},
		{[]int{5, 4, 3, 2, 1, 0}, nil, []int{2, 2, 2}},
		{[]int{0, 1, 2, 3, 4, 5}, nil, []int{1, 1, 1, 1, 1, 1}},
		{[]int{-1, -1, -1, -1, -1, -1}, []int{1, 1, 1, 1, 1, 1}, nil},
		{[]int{2, 1, 0, -1, 5, -1}, []int{1, 2}, []int{1, 2}},
	} {
		checkShape(t, c.f, c.chains, c.cycles)
	}
	eachChart(t, func(t *testing.T, f []int) {
		chains, cycles := shapeOf(f)
		checkShape(t, f, chains, cycles)
	})
}

func checkShape(t *testing.T, f, chains, cycles []int) {
	t.Helper()
	gotChains, gotCycles, ok := impl.WaysShape(f)
	if !ok || !slices.Equal(gotChains, chains) || !slices.Equal(gotCycles, cycles) {
		t.Errorf("WaysShape of %v returned %v, %v, %v, and not %v, %v", f, gotChains, gotCycles, ok, chains, cycles)
	}
}

func TestWaysAlike(t *testing.T) {
	for _, c := range []struct {
		f, g []int
		want bool
	}{
		{[]int{0}, []int{0}, true},
		{[]int{-1}, []int{-1}, true},
		{[]int{0}, []int{-1}, false},
		{[]int{1, -1}, []int{-1, 0}, true},
		{[]int{1, -1}, []int{0, -1}, false},
		{[]int{1, 0}, []int{0, 1}, false},
		{[]int{1, 0, 2}, []int{0, 2, 1}, true},
		{[]int{1, 2, 0}, []int{2, 0, 1}, true},
		{[]int{1, 2, 0}, []int{1, 0, 2}, false},
		{[]int{1, 2, -1}, []int{1, 0, -1}, false},
		{[]int{1, 2, 3, -1, -1}, []int{1, 2, -1, 4, -1}, false},
		{sixth, []int{5, 0, -1, 3, 1, 4}, false},
		{sixth, []int{1, 0, 2, 5, -1, 4}, true},
		{[]int{5, 4, 3, 2, 1, 0}, []int{1, 2, 3, 4, 5, 0}, false},
	} {
		checkHolds(t, "WaysAlike", impl.WaysAlike(c.f, c.g), c.want)
	}
	for n := 1; n <= impl.PointsMax; n++ {
		turns, sample := allMoved(n), sampleOf(n)
		for _, f := range sample {
			alikes := alikesOf(f, turns)
			for _, g := range sample {
				if got := impl.WaysAlike(f, g); got != alikes[keyOf(g)] {
					t.Fatalf("WaysAlike of %v and %v returned %v", f, g, got)
				}
			}
		}
	}
}

func TestWaysIndexAndPeriod(t *testing.T) {
	for _, c := range []struct {
		f             []int
		index, period int
	}{
		{[]int{0}, 0, 1},
		{[]int{-1}, 1, 1},
		{[]int{1, 0}, 0, 2},
		{[]int{1, -1}, 2, 1},
		{[]int{0, -1}, 1, 1},
		{[]int{1, -1, 0}, 3, 1},
		{[]int{1, 0, 2}, 0, 2},
		{[]int{1, 0, -1}, 1, 2},
		{sixth, 3, 2},
		{[]int{1, 2, 0, 4, 3, -1}, 1, 6},
		{[]int{1, 2, 0, 4, 3, 5}, 0, 6},
		{[]int{1, 2, 3, 0, 5, 4}, 0, 4},
		{[]int{1, 2, 3, 0, 5, -1}, 2, 4},
		{[]int{1, 2, 0, 4, 5, 3}, 0, 3},
		{[]int{1, 2, 3, 4, 0, -1}, 1, 5},
		{[]int{-1, 0, 1, 2, 3, 4}, 6, 1},
		{[]int{5, 0, 1, 2, 3, 4}, 0, 6},
		{[]int{0, 1, 2, 3, 4, 5}, 0, 1},
		{[]int{-1, -1, -1, -1, -1, -1}, 1, 1},
	} {
		index, ok := impl.WaysIndex(c.f)
		checkNumber(t, "WaysIndex", index, ok, c.index)
		period, ok := impl.WaysPeriod(c.f)
		checkNumber(t, "WaysPeriod", period, ok, c.period)
	}
	eachChart(t, func(t *testing.T, f []int) {
		index, ok := impl.WaysIndex(f)
		checkNumber(t, "WaysIndex", index, ok, indexOf(f))
		period, ok := impl.WaysPeriod(f)
		checkNumber(t, "WaysPeriod", period, ok, periodOf(f))
	})
}

func TestWaysPower(t *testing.T) {
	for _, c := range []struct {
		f    []int
		k    int
		want []int
	}{
		{[]int{-1}, 0, []int{0}},
		{[]int{-1}, 1, []int{-1}},
		{[]int{-1}, -1, []int{-1}},
		{[]int{0}, 100, []int{0}},
		{[]int{1, -1, 0}, 0, []int{0, 1, 2}},
		{[]int{1, -1, 0}, 2, []int{-1, -1, 1}},
		{[]int{1, -1, 0}, -2, []int{-1, 2, -1}},
		{[]int{1, -1, 0}, 3, []int{-1, -1, -1}},
		{[]int{1, 2, 0}, 100, []int{1, 2, 0}},
		{[]int{1, 2, 0}, -100, []int{2, 0, 1}},
		{[]int{1, 2, 0}, 99, []int{0, 1, 2}},
		{sixth, 1, sixth},
		{sixth, 100, []int{-1, -1, -1, 3, 4, 5}},
		{sixth, -99, []int{-1, -1, -1, 4, 3, 5}},
	} {
		got, ok := impl.WaysPower(c.f, c.k)
		checkList(t, "WaysPower", got, ok, c.want)
	}
	eachChart(t, func(t *testing.T, f []int) {
		for _, k := range []int{-100, -99, -3, -2, -1, 0, 1, 2, 3, 6, 97, 100} {
			got, ok := impl.WaysPower(f, k)
			checkList(t, "WaysPower", got, ok, powerOf(f, k))
		}
	})
}

func TestWaysPowerFails(t *testing.T) {
	for _, f := range [][]int{{0}, {-1}, {1, -1, 0}, sixth} {
		for _, k := range noPowers() {
			got, ok := impl.WaysPower(f, k)
			checkFails(t, "WaysPower", got, ok)
		}
	}
	for _, f := range noCharts() {
		for _, k := range append(noPowers(), -100, -1, 0, 1, 100) {
			got, ok := impl.WaysPower(f, k)
			checkFails(t, "WaysPower", got, ok)
		}
	}
}

func TestGreenHolds(t *testing.T) {
	for _, c := range []struct {
		f, g []int
		want string
	}{
		{[]int{0}, []int{0}, "LRHD"},
		{[]int{-1}, []int{-1}, "LRHD"},
		{[]int{0}, []int{-1}, ""},
		{[]int{1, -1}, []int{0, -1}, "RD"},
		{[]int{1, -1}, []int{-1, 1}, "LD"},
		{[]int{1, -1}, []int{-1, 0}, "D"},
		{[]int{1, 0}, []int{0, 1}, "LRHD"},
		{[]int{1, -1, 0}, []int{0, -1, 1}, "LRHD"},
		{[]int{1, -1, 0}, []int{-1, -1, 0}, ""},
		{sixth, []int{5, -1, 4, 3, 2, 1}, "LRHD"},
		{sixth, []int{5, -1, 4, 3, 2, 0}, "RD"},
		{sixth, []int{0, 1, 2, 3, 4, 5}, ""},
	} {
		for _, letter := range []string{"L", "R", "H", "D"} {
			want := slices.Contains([]byte(c.want), letter[0])
			if got := impl.GreenHolds(letter, c.f, c.g); got != want {
				t.Errorf("GreenHolds with %s of %v and %v returned %v", letter, c.f, c.g, got)
			}
		}
	}
	eachPair(t, func(t *testing.T, f, g []int) {
		sameRange, sameDomain := rangeOf(f) == rangeOf(g), domainOf(f) == domainOf(g)
		checkHolds(t, "GreenHolds with L", impl.GreenHolds("L", f, g), sameRange)
		checkHolds(t, "GreenHolds with R", impl.GreenHolds("R", f, g), sameDomain)
		checkHolds(t, "GreenHolds with H", impl.GreenHolds("H", f, g), sameRange && sameDomain)
		checkHolds(t, "GreenHolds with D", impl.GreenHolds("D", f, g), pointsIn(domainOf(f)) == pointsIn(domainOf(g)))
	})
}

func TestGreenHoldsForNoOtherLetters(t *testing.T) {
	for _, letter := range []string{"", "J", "l", "r", "h", "d", "LL", "LR", "L ", " D", "HD", "LRHD", "\x00", "D\x00", "\xff", "\u0394"} {
		for _, f := range [][]int{{0}, {-1}, {1, -1, 0}, sixth} {
			checkHolds(t, "GreenHolds with "+strconv.Quote(letter), impl.GreenHolds(letter, f, f), false)
		}
	}
}

func TestChartNumber(t *testing.T) {
	for n, want := range []int{1, 2, 7, 34, 209, 1546, 13327, 130922, 1441729, 17572114, 234662231, 3405357682, 53334454417} {
		got, ok := impl.ChartNumber(n)
		checkNumber(t, "ChartNumber", got, ok, want)
		checkNumber(t, "ChartNumber", got, ok, numberOf(n))
	}
	for n := 1; n <= impl.PointsMax; n++ {
		got, ok := impl.ChartNumber(n)
		checkNumber(t, "ChartNumber", got, ok, len(chartsOf(n)))
	}
	for _, n := range []int{-1, -2, 13, 14, 64, 100, math.MaxInt, math.MinInt} {
		got, ok := impl.ChartNumber(n)
		checkFailsNumber(t, "ChartNumber", got, ok)
	}
}

func TestChartAll(t *testing.T) {
	got, ok := impl.ChartAll(1)
	checkLists(t, "ChartAll", got, ok, [][]int{{-1}, {0}})
	got, ok = impl.ChartAll(2)
	checkLists(t, "ChartAll", got, ok, [][]int{{-1, -1}, {-1, 0}, {-1, 1}, {0, -1}, {0, 1}, {1, -1}, {1, 0}})
	got, ok = impl.ChartAll(3)
	checkLists(t, "ChartAll", got, ok, chartsOf(3))
	for n := 1; n <= 3; n++ {
		got, _ := impl.ChartAll(n)
		checkHolds(t, "IsSortedFunc", slices.IsSortedFunc(got, slices.Compare), true)
		number, ok := impl.ChartNumber(n)
		checkNumber(t, "ChartNumber", number, ok, len(got))
		for _, f := range got {
			checkHolds(t, "ChartIn", impl.ChartIn(f), true)
		}
	}
	for _, n := range append(noSizes(), 4, 5, 6) {
		got, ok := impl.ChartAll(n)
		checkFailsLists(t, "ChartAll", got, ok)
	}
}

func TestWaysOfListsThatAreNoCharts(t *testing.T) {
	for _, f := range noCharts() {
		ways, ok := impl.WaysOf(f)
		checkFailsLists(t, "WaysOf", ways, ok)
		chains, cycles, ok := impl.WaysShape(f)
		checkFails(t, "WaysShape", chains, ok)
		checkFails(t, "WaysShape", cycles, ok)
		index, ok := impl.WaysIndex(f)
		checkFailsNumber(t, "WaysIndex", index, ok)
		period, ok := impl.WaysPeriod(f)
		checkFailsNumber(t, "WaysPeriod", period, ok)
		if t.Failed() {
			t.Fatalf("with the list %v", f)
		}
	}
}

func TestWaysOfPairsThatDoNotMatch(t *testing.T) {
	for _, c := range badPairs() {
		f, g := c[0], c[1]
		checkHolds(t, "WaysAlike", impl.WaysAlike(f, g), false)
		for _, letter := range []string{"L", "R", "H", "D", ""} {
			checkHolds(t, "GreenHolds with "+strconv.Quote(letter), impl.GreenHolds(letter, f, g), false)
		}
		if t.Failed() {
			t.Fatalf("with the lists %v and %v", f, g)
		}
	}
}

// TestWaysShareNoMemory fills the results, with all of their capacity, and looks at the argument and at the next results.
func TestWaysShareNoMemory(t *testing.T) {
	calls := []struct {
		name string
		call func(f []int) [][]int
	}{
		{"WaysOf", func(f []int) [][]int { ways, _ := impl.WaysOf(f); return ways }},
		{"WaysShape", func(f []int) [][]int { chains, cycles, _ := impl.WaysShape(f); return [][]int{chains, cycles} }},
		{"WaysPower", func(f []int) [][]int { power, _ := impl.WaysPower(f, 1); return [][]int{power} }},
		{"WaysPower of 0", func(f []int) [][]int { power, _ := impl.WaysPower(f, 0); return [][]int{power} }},
		{"ChartAll", func(f []int) [][]int { all, _ := impl.ChartAll(min(len(f), 3)); return all }},
	}
	const spare = -7
	for _, c := range calls {
		for _, f := range [][]int{{0}, {-1}, {1, -1, 0}, {1, 0, 2}, sixth, {-1, -1, -1, 5, 4, 3}, {0, 1, 2, 3, 4, 5}} {
			given := append(slices.Clone(f), spare, spare)
			first := c.call(given[:len(f)])
			kept := clones(first)
			checkApart(t, c.name, first)
			fill(first)
			if second := c.call(given[:len(f)]); !slices.EqualFunc(second, kept, slices.Equal) {
				t.Errorf("%s returned %v and then %v", c.name, kept, second)
			}
			if !slices.Equal(given, append(slices.Clone(f), spare, spare)) {
				t.Errorf("%s changed its argument or shares its memory: %v", c.name, given)
			}
		}
	}
}

// checkApart fills each of some lists, with its capacity, and looks at the others.
func checkApart(t *testing.T, name string, lists [][]int) {
	t.Helper()
	for i, list := range lists {
		others := clones(lists)
		for j := range list[:cap(list)] {
			list[:cap(list)][j] = 9
		}
		for j := range lists {
			if j != i && !slices.Equal(lists[j], others[j]) {
				t.Errorf("%s returned lists that share memory", name)
			}
		}
	}
}

// TestWaysChartSharesNoMemory gives lists that have more behind them, which is to stay.
func TestWaysChartSharesNoMemory(t *testing.T) {
	points := []int{4, 2, 0, 3, 1, 5}
	chains := [][]int{points[0:2], points[2:3], {7}, {8}}
	cycles := [][]int{points[3:5], points[5:6], {9}}
	for range 2 {
		got, ok := impl.WaysChart(6, chains[:2], cycles[:2])
		checkList(t, "WaysChart", got, ok, []int{-1, 3, -1, 1, 2, 5})
		fill([][]int{got})
	}
	checkSame(t, "the points", points, []int{4, 2, 0, 3, 1, 5})
	checkLists(t, "the chains", chains, true, [][]int{{4, 2}, {0}, {7}, {8}})
	checkLists(t, "the cycles", cycles, true, [][]int{{3, 1}, {5}, {9}})
}

// TestQuestionsOfWaysChangeNothing looks at the arguments of the functions whose results have no memory.
func TestQuestionsOfWaysChangeNothing(t *testing.T) {
	for _, pair := range [][2][]int{{sixth, {0, 1, 2, 3, 4, -1}}, {{1, -1, 0}, {-1, 2, -1}}, {{0, 0}, {2, 1}}} {
		f, g := slices.Clone(pair[0]), slices.Clone(pair[1])
		impl.WaysAlike(f, g)
		impl.WaysIndex(f)
		impl.WaysPeriod(f)
		for _, letter := range []string{"L", "R", "H", "D", "X"} {
			impl.GreenHolds(letter, f, g)
		}
		if !slices.Equal(f, pair[0]) || !slices.Equal(g, pair[1]) {
			t.Errorf("the arguments %v became %v, %v", pair, f, g)
		}
	}
}
