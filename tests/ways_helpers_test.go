package tests

import (
	"math"
	"slices"
	"testing"

	"loop.example/partialcharts/impl"
)

// checkWays checks that lists are the ways of a chart: chains and then cycles, in the order of their first points,
// with each point in just one of them.
func checkWays(t *testing.T, f []int, ways [][]int) {
	t.Helper()
	var met []int
	for i, way := range ways {
		if len(way) == 0 {
			t.Fatalf("a way of %v is empty", f)
		}
		first, last := way[0], way[len(way)-1]
		for j := 1; j < len(way); j++ {
			if f[way[j-1]] != way[j] {
				t.Errorf("the way %v of %v does not go where the points are moved", way, f)
			}
		}
		switch {
		case isCycle(f, way):
			if slices.Min(way) != first {
				t.Errorf("the cycle %v of %v does not begin with its least point", way, f)
			}
		case slices.Contains(f, first) || f[last] != -1:
			t.Errorf("the way %v of %v is no cycle and no chain", way, f)
		}
		if i > 0 {
			before := ways[i-1]
			if isCycle(f, before) && !isCycle(f, way) || isCycle(f, before) == isCycle(f, way) && before[0] >= first {
				t.Errorf("the ways %v of %v are not in their order", ways, f)
			}
		}
		met = append(met, way...)
	}
	slices.Sort(met)
	if !slices.Equal(met, identityOf(len(f))) {
		t.Errorf("the ways %v of %v do not have each point once", ways, f)
	}
}

// isCycle tells a cycle from a chain.
func isCycle(f, way []int) bool {
	return f[way[len(way)-1]] == way[0]
}

// kindsOf parts ways into chains and cycles.
func kindsOf(f []int, ways [][]int) (chains, cycles [][]int) {
	for _, way := range ways {
		if isCycle(f, way) {
			cycles = append(cycles, way)
		} else {
			chains = append(chains, way)
		}
	}
	return chains, cycles
}

// shapeOf lists how long the chains and the cycles of a chart are: of each point, how far its way goes on both sides.
func shapeOf(f []int) (chains, cycles []int) {
	for i := range f {
		length, at := 1, f[i]
		for at >= 0 && at != i {
			length++
			at = f[at]
		}
		if at < 0 && !slices.Contains(f, i) {
			chains = append(chains, length)
		}
		if at == i && i == leastAround(f, i) {
			cycles = append(cycles, length)
		}
	}
	slices.Sort(chains)
	slices.Sort(cycles)
	return chains, cycles
}

// leastAround returns the least point of the cycle of a point.
func leastAround(f []int, i int) int {
	least := i
	for at := f[i]; at != i; at = f[at] {
		least = min(least, at)
	}
	return least
}

// identityOf returns the chart of n points that moves all of them to themselves, which is also the list of all points.
func identityOf(n int) []int {
	f := make([]int, n)
	for i := range f {
		f[i] = i
	}
	return f
}

// powerOf returns a power of a chart, one product after the other.
func powerOf(f []int, k int) []int {
	if k < 0 {
		f, k = turnedOf(f), -k
	}
	power := identityOf(len(f))
	for range k {
		power = timesOf(power, f)
	}
	return power
}

// indexOf returns the index of a chart, by the ranks of its powers.
func indexOf(f []int) int {
	k := 0
	for pointsIn(domainOf(powerOf(f, k))) != pointsIn(domainOf(powerOf(f, k+1))) {
		k++
	}
	return k
}

// periodOf returns the period of a chart, by its powers behind the one with the index.
func periodOf(f []int) int {
	index := indexOf(f)
	start := powerOf(f, index)
	p := 1
	for !slices.Equal(powerOf(f, index+p), start) {
		p++
	}
	return p
}

// allMoved lists the charts of n points that move all of them.
func allMoved(n int) [][]int {
	return slices.DeleteFunc(chartsOf(n), func(f []int) bool { return slices.Contains(f, -1) })
}

// alikesOf returns what a chart is moved to by the charts that move all points, as keys of a map.
func alikesOf(f []int, turns [][]int) map[[impl.PointsMax + 1]int]bool {
	alikes := map[[impl.PointsMax + 1]int]bool{}
	for _, p := range turns {
		alikes[keyOf(timesOf(timesOf(turnedOf(p), f), p))] = true
	}
	return alikes
}

// keyOf returns a chart as an array, its number of points last.
func keyOf(f []int) [impl.PointsMax + 1]int {
	var key [impl.PointsMax + 1]int
	copy(key[:], f)
	key[impl.PointsMax] = len(f)
	return key
}

// numberOf returns the number of all charts of n points, by the sum of the document.
func numberOf(n int) int {
	sum := 0
	for k := 0; k <= n; k++ {
		factorial := 1
		for i := 2; i <= k; i++ {
			factorial *= i
		}
		sum += choices(n, k) * choices(n, k) * factorial
	}
	return sum
}

// choices returns the number of ways to choose k of n.
func choices(n, k int) int {
	if k == 0 || k == n {
		return 1
	}
	return choices(n-1, k-1) + choices(n-1, k)
}

// noPowers are numbers that are no powers to ask for.
func noPowers() []int {
	return []int{-101, 101, -102, 102, 1000, -1000, 1 << 32, -1 << 32, math.MaxInt, math.MinInt, math.MinInt + 1}
}

// checkFailsLists is checkFails for a list of lists.
func checkFailsLists(t *testing.T, name string, got [][]int, ok bool) {
	t.Helper()
	if ok || len(got) != 0 {
		t.Errorf("%s returned %v, %v where it fails", name, got, ok)
	}
}

// checkLists is checkList for a list of lists.
func checkLists(t *testing.T, name string, got [][]int, ok bool, want [][]int) {
	t.Helper()
	if !ok || !slices.EqualFunc(got, want, slices.Equal) {
		t.Errorf("%s returned %v, %v, and not %v", name, got, ok, want)
	}
}

// clones copies a list of lists.
func clones(lists [][]int) [][]int {
	var copies [][]int
	for _, list := range lists {
		copies = append(copies, slices.Clone(list))
	}
	return copies
}

// fill writes into lists with all of their capacity, and then into the list of them.
func fill(lists [][]int) {
	for _, list := range lists {
		for i := range list[:cap(list)] {
			list[:cap(list)][i] = 9
		}
	}
	for i := range lists[:cap(lists)] {
		lists[:cap(lists)][i] = nil
	}
}
