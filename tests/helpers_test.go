package tests

import (
	"math"
	"math/bits"
	"slices"
	"testing"

	"loop.example/partialcharts/impl"
)

// chartsOf lists all charts of n points in the order of their lists, built without the program.
func chartsOf(n int) [][]int {
	all := [][]int{{}}
	for range n {
		var longer [][]int
		for _, start := range all {
			for to := -1; to < n; to++ {
				if to < 0 || !slices.Contains(start, to) {
					longer = append(longer, append(slices.Clone(start), to))
				}
			}
		}
		all = longer
	}
	return all
}

// eachChart checks something for every chart of one to six points.
func eachChart(t *testing.T, check func(t *testing.T, f []int)) {
	t.Helper()
	for n := 1; n <= impl.PointsMax; n++ {
		for _, f := range chartsOf(n) {
			check(t, f)
			if t.Failed() {
				t.Fatalf("with the chart %v", f)
			}
		}
	}
}

// sampleOf lists charts of n points: all of them for few points, and else some, among them those that are cut from one chart.
func sampleOf(n int) [][]int {
	all := chartsOf(n)
	if n <= 4 {
		return all
	}
	sample := [][]int{make([]int, n), make([]int, n), make([]int, n)}
	for i := range n {
		sample[0][i] = -1
		sample[1][i] = i
		sample[2][i] = (i + 1) % n
	}
	for set := 0; set < 1<<n; set += 3 {
		sample = append(sample, cutOf(sample[1], set), cutOf(sample[2], set))
	}
	for i := 0; i < len(all); i += len(all)/60 + 1 {
		sample = append(sample, all[i])
	}
	return sample
}

// eachPair checks something for pairs of charts of as many points, from one to six.
func eachPair(t *testing.T, check func(t *testing.T, f, g []int)) {
	t.Helper()
	for n := 1; n <= impl.PointsMax; n++ {
		sample := sampleOf(n)
		for _, f := range sample {
			for _, g := range sample {
				check(t, f, g)
				if t.Failed() {
					t.Fatalf("with the charts %v and %v", f, g)
				}
			}
		}
	}
}

// The next functions say what the document says of charts, point by point, without the program.

func timesOf(f, g []int) []int {
	h := make([]int, len(f))
	for i, to := range f {
		h[i] = -1
		if to >= 0 {
			h[i] = g[to]
		}
	}
	return h
}

func turnedOf(f []int) []int {
	h := make([]int, len(f))
	for i := range f {
		h[i] = slices.Index(f, i)
	}
	return h
}

func domainOf(f []int) int {
	set := 0
	for i, to := range f {
		if to >= 0 {
			set += 1 << i
		}
	}
	return set
}

func rangeOf(f []int) int {
	set := 0
	for _, to := range f {
		if to >= 0 {
			set += 1 << to
		}
	}
	return set
}

func idemOf(f []int) bool {
	for i, to := range f {
		if to >= 0 && to != i {
			return false
		}
	}
	return true
}

func belowOf(f, g []int) bool {
	for i, to := range f {
		if to >= 0 && g[i] != to {
			return false
		}
	}
	return true
}

func meetOf(f, g []int) []int {
	h := make([]int, len(f))
	for i := range f {
		h[i] = -1
		if f[i] == g[i] {
			h[i] = f[i]
		}
	}
	return h
}

func compatibleOf(f, g []int) bool {
	return idemOf(timesOf(turnedOf(f), g)) && idemOf(timesOf(f, turnedOf(g)))
}

func joinOf(f, g []int) []int {
	h := make([]int, len(f))
	for i := range f {
		h[i] = max(f[i], g[i])
	}
	return h
}

func cutOf(f []int, set int) []int {
	h := make([]int, len(f))
	for i := range f {
		h[i] = -1
		if set>>i&1 == 1 {
			h[i] = f[i]
		}
	}
	return h
}

// pointsIn counts the points of a set.
func pointsIn(set int) int {
	return bits.OnesCount(uint(set))
}

// noCharts are lists that are no charts.
func noCharts() [][]int {
	return [][]int{
		nil,
		{},
		{1},
		{-2},
		{0, 0},
		{1, 1},
		{0, 2},
		{-2, 0},
		{0, -1, 0},
		{2, -1, 2},
		{0, 1, 3},
		{0, 1, 2, 3, 4, 4},
		{0, 1, 2, 3, 4, 6},
		{-1, -1, -1, -1, -1, -2},
		{0, 1, 2, 3, 4, 5, 6},
		{-1, -1, -1, -1, -1, -1, -1},
		{0, 1, 2, 3, 4, 5, -1},
		make([]int, 100),
		{math.MaxInt},
		{math.MinInt, 0},
		{0, 64},
		{0, 1 << 32},
	}
}

// badPairs are pairs of lists of which one is no chart or which have unlike numbers of points.
func badPairs() [][2][]int {
	var pairs [][2][]int
	for _, bad := range noCharts() {
		pairs = append(pairs, [2][]int{bad, bad})
		good := chartsOf(min(max(len(bad), 1), impl.PointsMax))
		for _, f := range [][]int{good[0], good[len(good)/2], good[len(good)-1]} {
			pairs = append(pairs, [2][]int{bad, f}, [2][]int{f, bad})
		}
	}
	for n := 1; n <= impl.PointsMax; n++ {
		for m := 1; m <= impl.PointsMax; m++ {
			if n == m {
				continue
			}
			few, many := sampleOf(n), sampleOf(m)
			pairs = append(pairs,
				[2][]int{few[0], many[0]},
				[2][]int{few[1], many[1]},
				[2][]int{few[len(few)-1], many[len(many)-1]})
		}
	}
	return pairs
}

// noSizes are numbers of points that no chart has.
func noSizes() []int {
	return []int{0, -1, -6, impl.PointsMax + 1, 62, 63, 64, 65, 100, math.MaxInt, math.MinInt}
}

// noSets are numbers that are no sets of n points.
func noSets(n int) []int {
	return []int{-1, -2, 1 << n, 1<<n + 1, 1 << 7, 1 << 32, 1 << 62, math.MaxInt, math.MinInt, math.MinInt + 1}
}

// checkFails checks that a call has returned false and the zero value.
func checkFails(t *testing.T, name string, got []int, ok bool) {
	t.Helper()
	if ok || len(got) != 0 {
		t.Errorf("%s returned %v, %v where it fails", name, got, ok)
	}
}

// checkFailsNumber is checkFails for a number.
func checkFailsNumber(t *testing.T, name string, got int, ok bool) {
	t.Helper()
	if ok || got != 0 {
		t.Errorf("%s returned %d, %v where it fails", name, got, ok)
	}
}

// checkList checks that a call has returned a list and true.
func checkList(t *testing.T, name string, got []int, ok bool, want []int) {
	t.Helper()
	if !ok || !slices.Equal(got, want) {
		t.Errorf("%s returned %v, %v, and not %v", name, got, ok, want)
	}
}

// checkNumber checks that a call has returned a number and true.
func checkNumber(t *testing.T, name string, got int, ok bool, want int) {
	t.Helper()
	if !ok || got != want {
		t.Errorf("%s returned %d, %v, and not %d", name, got, ok, want)
	}
}

// checkHolds checks what a question has been answered.
func checkHolds(t *testing.T, name string, got bool, want bool) {
	t.Helper()
	if got != want {
		t.Errorf("%s returned %v", name, got)
	}
}

// must gives the first result of a call that is to succeed.
func must[T any](t *testing.T, name string) func(T, bool) T {
	t.Helper()
	return func(got T, ok bool) T {
		t.Helper()
		if !ok {
			t.Fatalf("%s failed", name)
		}
		return got
	}
}
