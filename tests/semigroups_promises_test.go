package tests

import (
	"slices"
	"testing"

	"loop.example/partialcharts/impl"
)

// semigroup, idems, ideal, classes, tops and above are the program's, where they are to succeed.

func semigroup(t *testing.T, given [][]int) [][]int {
	t.Helper()
	return must[[][]int](t, "SemigroupOf")(impl.SemigroupOf(given))
}

func idems(t *testing.T, list [][]int) [][]int {
	t.Helper()
	return must[[][]int](t, "SemigroupIdems")(impl.SemigroupIdems(list))
}

func ideal(t *testing.T, list [][]int, f []int) [][]int {
	t.Helper()
	return must[[][]int](t, "SemigroupIdeal")(impl.SemigroupIdeal(list, f))
}

func classes(t *testing.T, list [][]int) []int {
	t.Helper()
	return must[[]int](t, "SemigroupClasses")(impl.SemigroupClasses(list))
}

func tops(t *testing.T, list [][]int) [][]int {
	t.Helper()
	return must[[][]int](t, "SemigroupTops")(impl.SemigroupTops(list))
}

func above(t *testing.T, list [][]int, f []int) [][]int {
	t.Helper()
	return must[[][]int](t, "SemigroupAbove")(impl.SemigroupAbove(list, f))
}

// checkHas checks that a chart is in a list.
func checkHas(t *testing.T, name string, list [][]int, f []int) {
	t.Helper()
	if !slices.ContainsFunc(list, func(g []int) bool { return slices.Equal(f, g) }) {
		t.Errorf("%s does not have %v: %v", name, f, list)
	}
}

func TestPromise26(t *testing.T) {
	for n := 1; n <= 3; n++ {
		all, ok := impl.ChartAll(n)
		checkLists(t, "ChartAll", all, ok, chartsOf(n))
		if len(all) != number(t, n) {
			t.Errorf("ChartAll returned %d charts of %d points", len(all), n)
		}
		for _, f := range all {
			checkHolds(t, "ChartIn", impl.ChartIn(f), true)
		}
		checkHolds(t, "SemigroupIn of all charts", impl.SemigroupIn(all), true)
	}
}

// TestPromise27 takes what the program takes for semigroups among all parts of the charts of one and two points,
// and among semigroups, whole and without one chart.
func TestPromise27(t *testing.T) {
	for n := 1; n <= 2; n++ {
		all := chartsOf(n)
		for set := range 1 << len(all) {
			checkPromise27(t, partOf(all, set))
		}
	}
	eachSemigroup(t, func(t *testing.T, list [][]int) {
		checkHolds(t, "SemigroupIn", impl.SemigroupIn(list), true)
		checkPromise27(t, list)
		for i := range min(len(list), 6) {
			checkPromise27(t, slices.Delete(slices.Clone(list), i, i+1))
		}
	})
}

func checkPromise27(t *testing.T, list [][]int) {
	t.Helper()
	if !impl.SemigroupIn(list) {
		return
	}
	if len(list) <= 6 {
		got, ok := impl.SemigroupOf(list)
		checkLists(t, "SemigroupOf of a semigroup", got, ok, list)
	}
	checkHas(t, "a semigroup", list, times(t, list[len(list)-1], list[0]))
}

func TestPromise28(t *testing.T) {
	for _, given := range append(someGiven(), given399, given400) {
		list := semigroup(t, given)
		checkHolds(t, "SemigroupIn of SemigroupOf", impl.SemigroupIn(list), true)
		for _, f := range given {
			checkHas(t, "SemigroupOf", list, f)
		}
		opposite := slices.Clone(given)
		slices.Reverse(opposite)
		got, ok := impl.SemigroupOf(opposite)
		checkLists(t, "SemigroupOf in the opposite order", got, ok, list)
	}
}

func TestPromise29(t *testing.T) {
	eachSemigroup(t, func(t *testing.T, list [][]int) {
		those := idems(t, list)
		if len(those) == 0 {
			t.Error("SemigroupIdems returned no chart")
		}
		for _, e := range those {
			for _, f := range those {
				checkSame(t, "the product both ways", times(t, e, f), times(t, f, e))
				checkSame(t, "the product", times(t, e, f), meet(t, e, f))
			}
		}
	})
}

func TestPromise30(t *testing.T) {
	groups := 0
	check := func(t *testing.T, list [][]int) {
		if !impl.SemigroupGroup(list) {
			return
		}
		groups++
		checkSame(t, "SemigroupClasses of a group", classes(t, list), []int{1, 1, 1})
		for _, f := range list {
			for _, g := range list {
				checkHolds(t, "ChartBelow in a group", impl.ChartBelow(f, g), slices.Equal(f, g))
			}
		}
	}
	eachSemigroup(t, check)
	check(t, closureOf([][]int{{1, 2, 0, 3, 4, 5}, {0, 2, 3, 4, 5, 1}}))
	if groups < 20 {
		t.Errorf("SemigroupGroup held only %d times", groups)
	}
}

func TestPromise31(t *testing.T) {
	eachSemigroup(t, func(t *testing.T, list [][]int) {
		bottom, ok := impl.SemigroupBottom(list)
		if !ok {
			return
		}
		for _, f := range list {
			checkHolds(t, "ChartBelow of SemigroupBottom", impl.ChartBelow(bottom, f), true)
			if impl.ChartIdem(bottom) {
				checkSame(t, "the product behind SemigroupBottom", times(t, bottom, f), bottom)
				checkSame(t, "the product before SemigroupBottom", times(t, f, bottom), bottom)
			}
		}
	})
	_, ok := impl.SemigroupBottom(brandt)
	checkHolds(t, "SemigroupBottom of one that has one", ok, true)
}

func TestPromise32(t *testing.T) {
	eachSemigroup(t, func(t *testing.T, list [][]int) {
		known := map[[impl.PointsMax + 1]int][][]int{}
		idealWith := func(f []int) [][]int {
			if known[keyOf(f)] == nil {
				known[keyOf(f)] = ideal(t, list, f)
			}
			return known[keyOf(f)]
		}
		for _, f := range someOf(list) {
			those := idealWith(f)
			checkHas(t, "SemigroupIdeal", those, f)
			for _, g := range someOf(those) {
				if !isPartOf(idealWith(g), those) {
					t.Errorf("SemigroupIdeal of %v in %v is greater: %v", g, those, idealWith(g))
				}
				if rank(t, g) > rank(t, f) {
					t.Errorf("SemigroupIdeal of %v has %v", f, g)
				}
			}
		}
	})
}

// isPartOf reports whether all charts of a list are in another one.
func isPartOf(part, list [][]int) bool {
	keys := keysOf(list)
	return !slices.ContainsFunc(part, func(f []int) bool { return !keys[keyOf(f)] })
}

// TestPromise32OnBothSides multiplies the charts of ideals with all charts, before them and behind them.
func TestPromise32OnBothSides(t *testing.T) {
	eachSmallSemigroup(t, func(t *testing.T, list [][]int) {
		for _, f := range someOf(list) {
			those := ideal(t, list, f)
			for _, g := range those {
				for _, h := range list {
					checkHas(t, "SemigroupIdeal", those, times(t, g, h))
					checkHas(t, "SemigroupIdeal", those, times(t, h, g))
				}
			}
		}
	})
}

func TestPromise33(t *testing.T) {
	eachSemigroup(t, func(t *testing.T, list [][]int) {
		numbers := classes(t, list)
		if len(numbers) != 3 {
			t.Fatalf("SemigroupClasses returned %v", numbers)
		}
		if count := len(idems(t, list)); numbers[0] != count || numbers[1] != count || numbers[2] < count {
			t.Errorf("SemigroupClasses returned %v with %d of SemigroupIdems", numbers, count)
		}
	})
}

func TestPromise34(t *testing.T) {
	eachSemigroup(t, func(t *testing.T, list [][]int) {
		those := tops(t, list)
		for _, f := range list {
			if !slices.ContainsFunc(those, func(g []int) bool { return impl.ChartBelow(f, g) }) {
				t.Errorf("%v is below none of SemigroupTops", f)
			}
		}
	})
}

func TestPromise35(t *testing.T) {
	eachSemigroup(t, func(t *testing.T, list [][]int) {
		for _, f := range someOf(list) {
			those := above(t, list, f)
			checkHas(t, "SemigroupAbove", those, f)
			for _, g := range those {
				checkHolds(t, "ChartBelow of SemigroupAbove", impl.ChartBelow(f, g), true)
			}
		}
	})
}

func TestPromise36(t *testing.T) {
	held := 0
	eachSmallSemigroup(t, func(t *testing.T, list [][]int) {
		if !impl.SemigroupUnitary(list) {
			return
		}
		held++
		for _, below := range list {
			those := above(t, list, below)
			for _, f := range those {
				for _, g := range those {
					checkHolds(t, "ChartCompatible with a common chart below", impl.ChartCompatible(f, g), true)
				}
			}
		}
	})
	if held < 20 {
		t.Errorf("SemigroupUnitary held only %d times", held)
	}
}

func TestPromise37(t *testing.T) {
	held := 0
	eachSemigroup(t, func(t *testing.T, list [][]int) {
		if !impl.SemigroupSwaps(list) {
			return
		}
		held++
		for _, f := range list {
			image, ok := impl.ChartRange(f)
			checkNumber(t, "ChartRange", image, ok, domain(t, f))
		}
	})
	if held < 20 {
		t.Errorf("SemigroupSwaps held only %d times", held)
	}
}
