package tests

import (
	"slices"
	"testing"

	"loop.example/partialcharts/impl"
)

// groupBy, leastBy, splitBy, kernel and size are the program's, where they are to succeed.

func groupBy(t *testing.T, list [][]int) []int {
	t.Helper()
	return must[[]int](t, "CongruenceGroup")(impl.CongruenceGroup(list))
}

func leastBy(t *testing.T, list [][]int, f, g []int) []int {
	t.Helper()
	return must[[]int](t, "CongruenceLeast")(impl.CongruenceLeast(list, f, g))
}

func splitBy(t *testing.T, list [][]int) []int {
	t.Helper()
	return must[[]int](t, "CongruenceSplit")(impl.CongruenceSplit(list))
}

func kernel(t *testing.T, list [][]int, c []int) [][]int {
	t.Helper()
	return must[[][]int](t, "CongruenceKernel")(impl.CongruenceKernel(list, c))
}

func size(t *testing.T, list [][]int, c []int) int {
	t.Helper()
	return must[int](t, "CongruenceSize")(impl.CongruenceSize(list, c))
}

// numberAt returns the class number of a chart of a semigroup.
func numberAt(list [][]int, c []int, f []int) int {
	return c[slices.IndexFunc(list, func(g []int) bool { return slices.Equal(f, g) })]
}

func TestPromise78(t *testing.T) {
	var equal counted
	eachCongruence(t, func(t *testing.T, list [][]int, c []int) {
		if !impl.CongruenceIn(list, c) {
			t.Fatal("CongruenceIn does not hold")
		}
		for _, f := range fewOf(list) {
			for _, g := range fewOf(list) {
				if numberAt(list, c, f) != numberAt(list, c, g) {
					continue
				}
				equal++
				if numberAt(list, c, turned(t, f)) != numberAt(list, c, turned(t, g)) {
					t.Errorf("%v and %v are equal, and are not so turned", f, g)
				}
			}
		}
	})
	equal.checkAtLeast(t, 5000)
}

// TestPromise78OfClasses takes what the program takes for congruences among all classes of few charts.
func TestPromise78OfClasses(t *testing.T) {
	var count counted
	eachArrows(t, func(t *testing.T, list [][]int) {
		if len(list) > fewCharts {
			return
		}
		for _, c := range allClasses(len(list)) {
			if !impl.CongruenceIn(list, c) {
				continue
			}
			count++
			for i, f := range list {
				for j, g := range list {
					if c[i] == c[j] && numberAt(list, c, turned(t, f)) != numberAt(list, c, turned(t, g)) {
						t.Errorf("%v and %v are equal by %v, and are not so turned", f, g, c)
					}
				}
			}
		}
	})
	count.checkAtLeast(t, 500)
}

func TestPromise79(t *testing.T) {
	var unitary, not counted
	eachCongruent(t, func(t *testing.T, k congruent) {
		c := groupBy(t, k.list)
		checkHolds(t, "CongruenceIn of CongruenceGroup", impl.CongruenceIn(k.list, c), true)
		those := idems(t, k.list)
		for _, e := range those {
			if numberAt(k.list, c, e) != numberAt(k.list, c, those[0]) {
				t.Errorf("%v and %v are not equal by %v", e, those[0], c)
			}
		}
		just := slices.EqualFunc(kernel(t, k.list, c), those, slices.Equal)
		checkHolds(t, "SemigroupUnitary", impl.SemigroupUnitary(k.list), just)
		if just {
			unitary++
		} else {
			not++
		}
	})
	unitary.checkAtLeast(t, 50)
	not.checkAtLeast(t, 50)
}

func TestPromise80(t *testing.T) {
	var finer, not counted
	eachCongruent(t, func(t *testing.T, k congruent) {
		group := groupBy(t, k.list)
		few := fewFor(k, k.list)
		for _, f := range few {
			for _, g := range few {
				c := leastBy(t, k.list, f, g)
				checkHolds(t, "CongruenceIn of CongruenceLeast", impl.CongruenceIn(k.list, c), true)
				if numberAt(k.list, c, f) != numberAt(k.list, c, g) {
					t.Errorf("%v and %v are not equal by %v", f, g, c)
				}
				if numberAt(k.list, group, f) != numberAt(k.list, group, g) {
					not++
					continue
				}
				finer++
				checkHolds(t, "CongruenceFiner of CongruenceLeast", impl.CongruenceFiner(k.list, c, group), true)
			}
		}
	})
	finer.checkAtLeast(t, 1000)
	not.checkAtLeast(t, 500)
}

func TestPromise81(t *testing.T) {
	var equal counted
	eachCongruent(t, func(t *testing.T, k congruent) {
		c := splitBy(t, k.list)
		checkHolds(t, "CongruenceSplits of CongruenceSplit", impl.CongruenceSplits(k.list, c), true)
		image := must[int](t, "ChartRange")
		for i, f := range k.list {
			for j, g := range k.list[:i] {
				if c[i] != c[j] {
					continue
				}
				equal++
				if domain(t, f) != domain(t, g) || image(impl.ChartRange(f)) != image(impl.ChartRange(g)) {
					t.Errorf("%v and %v are equal by %v", f, g, c)
				}
			}
		}
	})
	equal.checkAtLeast(t, 200)
}

func TestPromise82(t *testing.T) {
	var greatest, finer, not counted
	eachCongruent(t, func(t *testing.T, k congruent) {
		split := splitBy(t, k.list)
		for _, c := range fewFor(k, k.congruences) {
			if !impl.CongruenceSplits(k.list, c) {
				not++
				continue
			}
			checkHolds(t, "CongruenceFiner of a splitting one", impl.CongruenceFiner(k.list, c, split), true)
			if slices.Equal(c, split) {
				greatest++
			} else {
				finer++
			}
		}
	})
	greatest.checkAtLeast(t, 200)
	finer.checkAtLeast(t, 50)
	not.checkAtLeast(t, 200)
}

func TestPromise83(t *testing.T) {
	var more, just counted
	eachCongruence(t, func(t *testing.T, list [][]int, c []int) {
		those := kernel(t, list, c)
		for _, e := range idems(t, list) {
			checkHas(t, "CongruenceKernel", those, e)
		}
		checkHolds(t, "SemigroupIn of CongruenceKernel", impl.SemigroupIn(those), true)
		if len(those) > len(idems(t, list)) {
			more++
		} else {
			just++
		}
	})
	more.checkAtLeast(t, 200)
	just.checkAtLeast(t, 200)
}

func TestPromise84(t *testing.T) {
	var all, one counted
	eachCongruence(t, func(t *testing.T, list [][]int, c []int) {
		count := size(t, list, c)
		if count < 1 || count > len(list) {
			t.Errorf("CongruenceSize returned %d", count)
		}
		alone := true
		for i, number := range c {
			alone = alone && !slices.Contains(c[:i], number)
		}
		checkHolds(t, "CongruenceSize as many as charts", count == len(list), alone)
		if alone {
			all++
		} else if count == 1 {
			one++
		}
	})
	all.checkAtLeast(t, 200)
	one.checkAtLeast(t, 200)
}

func TestPromise85(t *testing.T) {
	var finer, same counted
	eachCongruent(t, func(t *testing.T, k congruent) {
		few := fewFor(k, k.congruences)
		for _, c := range few {
			for _, d := range few {
				if !impl.CongruenceFiner(k.list, c, d) {
					continue
				}
				first, second := size(t, k.list, c), size(t, k.list, d)
				if first < second {
					t.Errorf("CongruenceFiner holds for %v with %d classes and %v with %d", c, first, d, second)
				}
				both := impl.CongruenceFiner(k.list, d, c)
				checkHolds(t, "as many classes", first == second, both)
				if both {
					same++
				} else {
					finer++
				}
			}
		}
	})
	finer.checkAtLeast(t, 500)
	same.checkAtLeast(t, 500)
}
