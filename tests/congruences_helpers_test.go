package tests

import (
	"math"
	"slices"
	"sync"
	"testing"

	"loop.example/partialcharts/impl"
)

// The next functions say what the document says of congruences, without the program.

// productsOf returns, for each two charts of a semigroup, the place of their product.
func productsOf(list [][]int) [][]int {
	placeAt := map[[impl.PointsMax + 1]int]int{}
	for i, f := range list {
		placeAt[keyOf(f)] = i
	}
	products := make([][]int, len(list))
	for i, f := range list {
		for _, g := range list {
			products[i] = append(products[i], placeAt[keyOf(timesOf(f, g))])
		}
	}
	return products
}

// otherWayOf returns, for each two charts, the place of the product of the second one and the first one.
func otherWayOf(products [][]int) [][]int {
	other := make([][]int, len(products))
	for i := range products {
		for j := range products {
			other[i] = append(other[i], products[j][i])
		}
	}
	return other
}

// areClassesOf reports whether each number is that of a class ahead or the next one, from 0 on.
func areClassesOf(c []int) bool {
	next := 0
	for _, number := range c {
		if number < 0 || number > next {
			return false
		}
		next = max(next, number+1)
	}
	return true
}

// keptOf reports whether products with any chart behind are equal where the charts ahead are.
func keptOf(products [][]int, c []int) bool {
	for i := range c {
		for j := range i {
			for h := range c {
				if c[i] == c[j] && c[products[i][h]] != c[products[j][h]] {
					return false
				}
			}
		}
	}
	return true
}

// isCongruenceOf reports whether numbers are a congruence of a semigroup, told by its products.
func isCongruenceOf(products [][]int, c []int) bool {
	return len(c) == len(products) && areClassesOf(c) && keptOf(products, c) && keptOf(otherWayOf(products), c)
}

// aloneOf returns the class numbers by which each of n charts is alone.
func aloneOf(n int) []int {
	c := make([]int, n)
	for i := range c {
		c[i] = i
	}
	return c
}

// oneOf returns the class numbers by which all n charts are equal.
func oneOf(n int) []int {
	return make([]int, n)
}

// allClasses lists all class numbers of n charts.
func allClasses(n int) [][]int {
	all := [][]int{{}}
	for range n {
		var longer [][]int
		for _, start := range all {
			for number := range sizeOf(start) + 1 {
				longer = append(longer, append(slices.Clone(start), number))
			}
		}
		all = longer
	}
	return all
}

// allNumbers lists all lists of n numbers from -1 to n.
func allNumbers(n int) [][]int {
	all := [][]int{{}}
	for range n {
		var longer [][]int
		for _, start := range all {
			for number := -1; number <= n; number++ {
				longer = append(longer, append(slices.Clone(start), number))
			}
		}
		all = longer
	}
	return all
}

// numberedOf returns the class numbers of n charts, told which of them, by their places, are equal.
func numberedOf(n int, equal func(i, j int) bool) []int {
	var c []int
	for i := range n {
		first := slices.IndexFunc(aloneOf(i), func(j int) bool { return equal(i, j) })
		if first < 0 {
			c = append(c, sizeOf(c))
		} else {
			c = append(c, c[first])
		}
	}
	return c
}

// leastOf makes two charts, told by their places, equal, and then products of equal charts, as long as there are some that are not.
func leastOf(products [][]int, i, j int) []int {
	// The mark of a class is the first place of its charts.
	first := aloneOf(len(products))
	changed := true
	equate := func(i, j int) {
		from, to := max(first[i], first[j]), min(first[i], first[j])
		if from == to {
			return
		}
		first, changed = renumbered(first, from, to), true
	}
	equate(i, j)
	for changed {
		changed = false
		for i := range products {
			for h := range products {
				equate(products[i][h], products[first[i]][h])
				equate(products[h][i], products[h][first[i]])
			}
		}
	}
	return numberedOf(len(products), func(i, j int) bool { return first[i] == first[j] })
}

// groupOf returns the class numbers of charts that are equal if some chart is below both.
func groupOf(list [][]int) []int {
	below := make([][]bool, len(list))
	for i, f := range list {
		for _, h := range list {
			below[i] = append(below[i], belowOf(h, f))
		}
	}
	return numberedOf(len(list), func(i, j int) bool {
		for h := range list {
			if below[i][h] && below[j][h] {
				return true
			}
		}
		return false
	})
}

// splitOf returns the class numbers of charts that are equal if the products of them turned,
// each chart that moves no point to another one, and them are the same.
func splitOf(list [][]int) []int {
	moved := make([][][]int, len(list))
	for i, f := range list {
		for _, e := range keepOf(list, idemOf) {
			moved[i] = append(moved[i], timesOf(timesOf(turnedOf(f), e), f))
		}
	}
	return numberedOf(len(list), func(i, j int) bool {
		return slices.EqualFunc(moved[i], moved[j], slices.Equal)
	})
}

// splitsOf reports whether no two charts that move no point to another one are in the same class.
func splitsOf(list [][]int, c []int) bool {
	for i, f := range list {
		for j := range i {
			if c[i] == c[j] && idemOf(f) && idemOf(list[j]) {
				return false
			}
		}
	}
	return true
}

// kernelOf returns the charts that are in a class with one that moves no point to another one.
func kernelOf(list [][]int, c []int) [][]int {
	var kernel [][]int
	for i, f := range list {
		for j, e := range list {
			if c[i] == c[j] && idemOf(e) {
				kernel = append(kernel, f)
				break
			}
		}
	}
	return kernel
}

// sizeOf counts the numbers.
func sizeOf(c []int) int {
	met := map[int]bool{}
	for _, number := range c {
		met[number] = true
	}
	return len(met)
}

// finerOf reports whether charts in the same class of the first class numbers are so of the second ones.
func finerOf(c, d []int) bool {
	for i := range c {
		for j := range i {
			if c[i] == c[j] && d[i] != d[j] {
				return false
			}
		}
	}
	return true
}

// Some more semigroups: a group with the chart that moves nothing; a unitary one whose greatest splitting congruence
// makes more charts equal than their group does; all charts of three points beside all those that move three others;
// and the chart that moves nothing beside two groups.
var (
	swapAndNothing = [][]int{{-1, -1}, {0, 1}, {1, 0}}
	beside         = closureOf([][]int{{0, 1, 3, 2, 4}, {0, -1, 2, 3, 4}, {0, 1, 3, 2, -1}})
	mixed          = closureOf([][]int{{1, 2, 0, 3, 4, 5}, {1, 0, 2, 3, 4, 5}, {0, 1, 2, 4, 5, 3}, {0, 1, 2, 4, 3, 5}, {0, 1, 2, 3, 4, -1}})
	groupsApart    = closureOf([][]int{{1, 2, 0, -1, -1}, {-1, -1, -1, 4, 3}})
)

// congruent is a semigroup with its products and with congruences of it.
type congruent struct {
	list        [][]int
	products    [][]int
	congruences [][]int
}

// fewCharts are so few that all their classes can be gone through.
const fewCharts = 7

// congruentOf returns a semigroup with all its congruences if it has few charts, and else with those by which
// each one is alone, by which all are equal, the group congruence, the greatest splitting one, and the least ones of some of its charts.
func congruentOf(list [][]int) congruent {
	products := productsOf(list)
	if len(list) <= fewCharts {
		none := func(c []int) bool { return !isCongruenceOf(products, c) }
		return congruent{list, products, slices.DeleteFunc(allClasses(len(list)), none)}
	}
	some := [][]int{aloneOf(len(list)), oneOf(len(list)), groupOf(list), splitOf(list)}
	places := fewOf(aloneOf(len(list)))
	for _, i := range places {
		for _, j := range places {
			if i < j {
				some = append(some, leastOf(products, i, j))
			}
		}
	}
	return congruent{list, products, inOrderOf(some)}
}

// smallCongruents and greatCongruents list semigroups with congruences, made without the program.
var (
	smallCongruents = sync.OnceValue(func() []congruent {
		var all []congruent
		for _, list := range slices.Concat(smallSemigroups(), moreSemigroups(), [][][]int{swapAndNothing, beside, groupsApart}) {
			all = append(all, congruentOf(list))
		}
		return all
	})
	greatCongruents = sync.OnceValue(func() []congruent {
		all := []congruent{congruentOf(mixed)}
		for _, list := range greatSemigroups() {
			all = append(all, congruentOf(list))
		}
		return all
	})
)

// eachCongruent checks something for every one of all of them.
func eachCongruent(t *testing.T, check func(t *testing.T, k congruent)) {
	t.Helper()
	for _, k := range slices.Concat(smallCongruents(), greatCongruents()) {
		check(t, k)
		if t.Failed() {
			t.Fatalf("with the semigroup of %d charts of %d points from %v on", len(k.list), len(k.list[0]), k.list[:min(len(k.list), 7)])
		}
	}
}

// eachCongruence checks something for every one of the congruences of these.
func eachCongruence(t *testing.T, check func(t *testing.T, list [][]int, c []int)) {
	t.Helper()
	eachCongruent(t, func(t *testing.T, k congruent) {
		for _, c := range k.congruences {
			check(t, k.list, c)
			if t.Failed() {
				t.Fatalf("with the congruence %v", c)
			}
		}
	})
}

// manyCharts are so many that the program takes longer with them.
const manyCharts = 60

// fewFor returns few elements of a list, and just four of them where a semigroup has many charts.
func fewFor[T any](k congruent, list []T) []T {
	few := fewOf(list)
	if len(k.list) > manyCharts {
		return few[len(few)-4:]
	}
	return few
}

// renumbered puts another number in the place of one of class numbers.
func renumbered(c []int, old, number int) []int {
	c = slices.Clone(c)
	for i := range c {
		if c[i] == old {
			c[i] = number
		}
	}
	return c
}

// noClassesOf changes class numbers to lists that are none of as many charts: with one left out or in another order,
// that do not begin with 0, with negative numbers and too large ones, too short ones and too long ones.
func noClassesOf(c []int) [][]int {
	const spare = 1000
	last := sizeOf(c) - 1
	none := [][]int{nil, {}, c[:len(c)-1], append(slices.Clone(c), 0), append(slices.Clone(c), last), append(slices.Clone(c), last+1)}
	for _, number := range []int{last + 1, last + 2, len(c) + 1, -1, -2, -len(c), 1 << 32, math.MaxInt, math.MinInt} {
		none = append(none, renumbered(c, last, number), renumbered(c, 0, number))
	}
	for number := range last {
		exchanged := renumbered(renumbered(c, number, spare), last, number)
		none = append(none, renumbered(exchanged, spare, last))
	}
	for _, by := range []int{1, -1} {
		shifted := slices.Clone(c)
		for i := range shifted {
			shifted[i] += by
		}
		none = append(none, shifted)
	}
	return none
}
