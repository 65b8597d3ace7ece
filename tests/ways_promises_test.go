package tests

import (
	"slices"
	"testing"

	"loop.example/partialcharts/impl"
)

// ways, power, index and period are the program's, where they are to succeed.

func ways(t *testing.T, f []int) [][]int {
	t.Helper()
	return must[[][]int](t, "WaysOf")(impl.WaysOf(f))
}

func power(t *testing.T, f []int, k int) []int {
	t.Helper()
	return must[[]int](t, "WaysPower")(impl.WaysPower(f, k))
}

func index(t *testing.T, f []int) int {
	t.Helper()
	return must[int](t, "WaysIndex")(impl.WaysIndex(f))
}

func period(t *testing.T, f []int) int {
	t.Helper()
	return must[int](t, "WaysPeriod")(impl.WaysPeriod(f))
}

func number(t *testing.T, n int) int {
	t.Helper()
	return must[int](t, "ChartNumber")(impl.ChartNumber(n))
}

func TestPromise16(t *testing.T) {
	eachChart(t, func(t *testing.T, f []int) {
		chains, cycles := kindsOf(f, ways(t, f))
		got, ok := impl.WaysChart(len(f), chains, cycles)
		checkList(t, "WaysChart of the ways", got, ok, f)
	})
}

// TestPromise17 parts the points of each order of them, at each set of places, into ways, of which each set are cycles.
func TestPromise17(t *testing.T) {
	for n := 1; n <= 4; n++ {
		for _, order := range allMoved(n) {
			for places := range 1 << (n - 1) {
				lists := partsOf(order, places)
				for kinds := range 1 << len(lists) {
					checkPromise17(t, n, lists, kinds)
				}
			}
		}
	}
	checkPromise17(t, 6, [][]int{{5, 3, 1, 0, 2, 4}}, 0)
	checkPromise17(t, 6, [][]int{{5, 3, 1, 0, 2, 4}}, 1)
	checkPromise17(t, 6, [][]int{{5}, {3, 1}, {0}, {2, 4}}, 6)
}

// partsOf parts a list behind each place of a set.
func partsOf(list []int, places int) [][]int {
	var parts [][]int
	start := 0
	for i := range list {
		if i == len(list)-1 || places>>i&1 == 1 {
			parts = append(parts, list[start:i+1])
			start = i + 1
		}
	}
	return parts
}

func checkPromise17(t *testing.T, n int, lists [][]int, kinds int) {
	t.Helper()
	var chains, cycles [][]int
	for i, list := range lists {
		if kinds>>i&1 == 1 {
			cycles = append(cycles, list)
		} else {
			chains = append(chains, list)
		}
	}
	f := must[[]int](t, "WaysChart")(impl.WaysChart(n, chains, cycles))
	checkHolds(t, "ChartIn", impl.ChartIn(f), true)
	if len(ways(t, f)) != len(lists) || rank(t, f) != n-len(chains) {
		t.Errorf("WaysChart of %v and %v returned %v", chains, cycles, f)
	}
}

func TestPromise18(t *testing.T) {
	eachChart(t, func(t *testing.T, f []int) {
		chains, cycles, ok := impl.WaysShape(f)
		checkHolds(t, "WaysShape", ok, true)
		together := 0
		for _, length := range slices.Concat(chains, cycles) {
			together += length
		}
		if together != len(f) || !slices.IsSorted(chains) || !slices.IsSorted(cycles) {
			t.Errorf("the shape is %v, %v", chains, cycles)
		}
		checkShape(t, turned(t, f), chains, cycles)
	})
}

func TestPromise19(t *testing.T) {
	met := 0
	eachPair(t, func(t *testing.T, f, g []int) {
		if !impl.WaysAlike(f, g) {
			return
		}
		met++
		checkHolds(t, "WaysAlike of both exchanged", impl.WaysAlike(g, f), true)
		checkHolds(t, "WaysAlike of both turned", impl.WaysAlike(turned(t, f), turned(t, g)), true)
		if index(t, f) != index(t, g) || period(t, f) != period(t, g) || rank(t, f) != rank(t, g) {
			t.Errorf("index, period or rank are not the same")
		}
	})
	if met == 0 {
		t.Errorf("WaysAlike holds for no charts")
	}
}

func TestPromise20(t *testing.T) {
	for n := 1; n <= impl.PointsMax; n++ {
		for i, p := range allMoved(n) {
			for j, f := range sampleOf(n) {
				if n > 4 && (i+j)%9 != 0 {
					continue
				}
				moved := times(t, times(t, turned(t, p), f), p)
				if !impl.WaysAlike(moved, f) {
					t.Fatalf("%v is moved by %v to %v, which is not alike", f, p, moved)
				}
			}
		}
	}
}

func TestPromise21(t *testing.T) {
	eachChart(t, func(t *testing.T, f []int) {
		k := index(t, f)
		if k < 0 || k > len(f) {
			t.Errorf("the index is %d", k)
		}
		if rank(t, power(t, f, k)) != rank(t, power(t, f, k+1)) {
			t.Errorf("the power %d has not the rank of the next one", k)
		}
		if (k == 0) == slices.Contains(f, -1) {
			t.Errorf("the index is %d", k)
		}
	})
}

func TestPromise22(t *testing.T) {
	eachChart(t, func(t *testing.T, f []int) {
		k, p := index(t, f), period(t, f)
		at := power(t, f, k)
		checkSame(t, "the power with index and period", power(t, f, k+p), at)
		checkHolds(t, "the period is 1", p == 1, slices.Equal(power(t, f, k+1), at))
	})
}

func TestPromise23(t *testing.T) {
	for n := 1; n <= impl.PointsMax; n++ {
		for _, f := range sampleOf(n) {
			at := power(t, f, 0)
			checkSame(t, "the power 0", at, identityOf(n))
			for k := 0; k <= 100; k++ {
				checkSame(t, "the power -k", power(t, f, -k), turned(t, at))
				if k < 100 {
					next := power(t, f, k+1)
					checkSame(t, "once more the chart", times(t, at, f), next)
					at = next
				}
			}
			if t.Failed() {
				t.Fatalf("with the chart %v", f)
			}
		}
	}
}

func TestPromise24(t *testing.T) {
	eachPair(t, func(t *testing.T, f, g []int) {
		holds := map[string]bool{}
		for _, letter := range []string{"L", "R", "H", "D"} {
			holds[letter] = impl.GreenHolds(letter, f, g)
			checkHolds(t, "GreenHolds of both exchanged", impl.GreenHolds(letter, g, f), holds[letter])
		}
		checkHolds(t, "GreenHolds with H", holds["H"], holds["L"] && holds["R"])
		if (holds["L"] || holds["R"]) && !holds["D"] {
			t.Errorf("GreenHolds with L or R, but not with D")
		}
	})
}

func TestPromise25(t *testing.T) {
	for n := 2; n <= 12; n++ {
		got, ok := impl.ChartNumber(n)
		checkNumber(t, "ChartNumber", got, ok, 2*n*number(t, n-1)-(n-1)*(n-1)*number(t, n-2))
	}
	if number(t, 0) != 1 || number(t, 1) != 2 {
		t.Errorf("ChartNumber begins with %d and %d", number(t, 0), number(t, 1))
	}
}
