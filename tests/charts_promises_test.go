package tests

import (
	"slices"
	"testing"

	"loop.example/partialcharts/impl"
)

// times, turned, meet and cut are the program's, where they are to succeed.

func times(t *testing.T, f, g []int) []int {
	t.Helper()
	return must[[]int](t, "ChartTimes")(impl.ChartTimes(f, g))
}

func turned(t *testing.T, f []int) []int {
	t.Helper()
	return must[[]int](t, "ChartTurned")(impl.ChartTurned(f))
}

func meet(t *testing.T, f, g []int) []int {
	t.Helper()
	return must[[]int](t, "ChartMeet")(impl.ChartMeet(f, g))
}

func cut(t *testing.T, f []int, set int) []int {
	t.Helper()
	return must[[]int](t, "ChartCut")(impl.ChartCut(f, set))
}

func domain(t *testing.T, f []int) int {
	t.Helper()
	return must[int](t, "ChartDomain")(impl.ChartDomain(f))
}

func rank(t *testing.T, f []int) int {
	t.Helper()
	return must[int](t, "ChartRank")(impl.ChartRank(f))
}

// checkSame checks that two lists are the same.
func checkSame(t *testing.T, what string, got, want []int) {
	t.Helper()
	if !slices.Equal(got, want) {
		t.Errorf("%s: %v is not %v", what, got, want)
	}
}

func TestPromise1(t *testing.T) {
	eachChart(t, func(t *testing.T, f []int) {
		checkHolds(t, "ChartIn", impl.ChartIn(f), true)
		round := times(t, f, turned(t, f))
		checkSame(t, "it, it turned and it", times(t, round, f), f)
		checkHolds(t, "ChartIdem of it and it turned", impl.ChartIdem(round), true)
	})
}

func TestPromise2(t *testing.T) {
	eachPair(t, func(t *testing.T, f, g []int) {
		product := times(t, f, g)
		checkSame(t, "a product turned", turned(t, product), times(t, turned(t, g), turned(t, f)))
		if rank(t, product) > min(rank(t, f), rank(t, g)) {
			t.Errorf("the product %v has the rank %d", product, rank(t, product))
		}
	})
}

func TestPromise3(t *testing.T) {
	eachPair(t, func(t *testing.T, f, g []int) {
		checkSame(t, "f, g and f", times(t, times(t, f, g), f), times(t, f, times(t, g, f)))
	})
}

func TestPromise4(t *testing.T) {
	eachChart(t, func(t *testing.T, f []int) {
		back := turned(t, f)
		checkSame(t, "turned and again", turned(t, back), f)
		set, ok := impl.ChartRange(f)
		checkNumber(t, "ChartRange", set, ok, domain(t, back))
	})
}

func TestPromise5(t *testing.T) {
	eachChart(t, func(t *testing.T, f []int) {
		got, ok := impl.ChartSet(len(f), domain(t, f))
		checkList(t, "ChartSet of the domain", got, ok, times(t, f, turned(t, f)))
	})
}

func TestPromise6(t *testing.T) {
	eachChart(t, func(t *testing.T, f []int) {
		set := must[int](t, "ChartRange")(impl.ChartRange(f))
		if pointsIn(set) != pointsIn(domain(t, f)) {
			t.Errorf("the range is %d and the domain %d", set, domain(t, f))
		}
	})
}

func TestPromise7(t *testing.T) {
	for n := 1; n <= impl.PointsMax; n++ {
		for set := range 1 << n {
			f := must[[]int](t, "ChartSet")(impl.ChartSet(n, set))
			got, ok := impl.ChartDomain(f)
			checkNumber(t, "ChartDomain", got, ok, set)
			checkHolds(t, "ChartIdem", impl.ChartIdem(f), true)
		}
	}
}

func TestPromise8(t *testing.T) {
	met := 0
	eachChart(t, func(t *testing.T, f []int) {
		if impl.ChartIdem(f) {
			met++
			checkSame(t, "it and itself", times(t, f, f), f)
			checkSame(t, "it turned", turned(t, f), f)
		}
	})
	if met != 2+4+8+16+32+64 {
		t.Errorf("ChartIdem holds for %d charts", met)
	}
}

func TestPromise9(t *testing.T) {
	eachChart(t, func(t *testing.T, f []int) {
		if slices.Equal(times(t, f, f), f) {
			checkHolds(t, "ChartIdem", impl.ChartIdem(f), true)
		}
	})
}

func TestPromise10(t *testing.T) {
	eachPair(t, func(t *testing.T, f, g []int) {
		if impl.ChartBelow(f, g) {
			checkSame(t, "the second one cut to the domain", cut(t, g, domain(t, f)), f)
			checkHolds(t, "ChartBelow of both turned", impl.ChartBelow(turned(t, f), turned(t, g)), true)
		}
	})
}

func TestPromise11(t *testing.T) {
	eachPair(t, func(t *testing.T, f, g []int) {
		both := meet(t, f, g)
		checkHolds(t, "ChartBelow of the meet and the first one", impl.ChartBelow(both, f), true)
		checkHolds(t, "ChartBelow of the meet and the second one", impl.ChartBelow(both, g), true)
		checkSame(t, "the meet of both exchanged", meet(t, g, f), both)
		checkHolds(t, "ChartBelow where the meet is the first one", impl.ChartBelow(f, g), slices.Equal(both, f))
	})
}

// TestPromise11Greatest checks that no chart below both is missing below the meet.
func TestPromise11Greatest(t *testing.T) {
	charts := chartsOf(3)
	for _, f := range charts {
		for _, g := range charts {
			both := meet(t, f, g)
			for _, h := range charts {
				if impl.ChartBelow(h, f) && impl.ChartBelow(h, g) && !impl.ChartBelow(h, both) {
					t.Errorf("%v is below %v and %v, but not below their meet %v", h, f, g, both)
				}
			}
		}
	}
}

func TestPromise12(t *testing.T) {
	eachPair(t, func(t *testing.T, f, g []int) {
		if impl.ChartCompatible(f, g) {
			checkHolds(t, "ChartCompatible of both exchanged", impl.ChartCompatible(g, f), true)
			checkHolds(t, "ChartCompatible of both turned", impl.ChartCompatible(turned(t, f), turned(t, g)), true)
		}
	})
}

func TestPromise13(t *testing.T) {
	eachPair(t, func(t *testing.T, f, g []int) {
		both, ok := impl.ChartJoin(f, g)
		checkHolds(t, "ChartJoin", ok, impl.ChartCompatible(f, g))
		if !ok {
			return
		}
		checkHolds(t, "ChartIn of the join", impl.ChartIn(both), true)
		checkHolds(t, "ChartBelow of the first one", impl.ChartBelow(f, both), true)
		checkHolds(t, "ChartBelow of the second one", impl.ChartBelow(g, both), true)
		if domain(t, both) != domain(t, f)|domain(t, g) {
			t.Errorf("the join %v has other points than both", both)
		}
		again, ok := impl.ChartJoin(g, f)
		checkList(t, "ChartJoin of both exchanged", again, ok, both)
		if rank(t, f)+rank(t, g) != rank(t, both)+rank(t, meet(t, f, g)) {
			t.Errorf("the ranks of the join %v and the meet are together not both ranks", both)
		}
	})
}

func TestPromise14(t *testing.T) {
	for n := 1; n <= impl.PointsMax; n++ {
		for _, f := range sampleOf(n) {
			for set := range 1 << n {
				part := cut(t, f, set)
				checkHolds(t, "ChartBelow", impl.ChartBelow(part, f), true)
				got, ok := impl.ChartDomain(part)
				checkNumber(t, "ChartDomain", got, ok, domain(t, f)&set)
			}
		}
	}
}

func TestPromise15(t *testing.T) {
	eachChart(t, func(t *testing.T, f []int) {
		got, ok := impl.ChartRank(f)
		checkNumber(t, "ChartRank", got, ok, pointsIn(domain(t, f)))
		if (got == len(f)) == slices.Contains(f, -1) {
			t.Errorf("the rank is %d", got)
		}
	})
}
