package tests

import (
	"slices"
	"testing"

	"loop.example/partialcharts/impl"
)

// objects, parts, local, arrows, germs and places are the program's, where they are to succeed.

func objects(t *testing.T, list [][]int) []int {
	t.Helper()
	return must[[]int](t, "ArrowObjects")(impl.ArrowObjects(list))
}

func parts(t *testing.T, list [][]int) [][]int {
	t.Helper()
	return must[[][]int](t, "ArrowParts")(impl.ArrowParts(list))
}

func local(t *testing.T, list [][]int, set int) int {
	t.Helper()
	return must[int](t, "ArrowLocal")(impl.ArrowLocal(list, set))
}

func arrows(t *testing.T, list [][]int, from, to int) [][]int {
	t.Helper()
	return must[[][]int](t, "ArrowFrom")(impl.ArrowFrom(list, from, to))
}

func germs(t *testing.T, list [][]int, p int) int {
	t.Helper()
	return must[int](t, "GermCount")(impl.GermCount(list, p))
}

func places(t *testing.T, list [][]int, p int) []int {
	t.Helper()
	return must[[]int](t, "GermPlaces")(impl.GermPlaces(list, p))
}

func TestPromise69(t *testing.T) {
	var count counted
	eachPair(t, func(t *testing.T, f, g []int) {
		if !impl.ArrowJoins(f, g) {
			return
		}
		count++
		checkHolds(t, "ArrowJoins of both turned, the second one first", impl.ArrowJoins(turned(t, g), turned(t, f)), true)
		if first, second, product := rank(t, f), rank(t, g), rank(t, times(t, f, g)); first != second || first != product {
			t.Errorf("the ranks are %d, %d and %d", first, second, product)
		}
	})
	count.checkAtLeast(t, 1000)
}

func TestPromise70(t *testing.T) {
	var count counted
	eachPair(t, func(t *testing.T, f, g []int) {
		product, ok := impl.ArrowTimes(f, g)
		checkHolds(t, "ArrowTimes", ok, impl.ArrowJoins(f, g))
		if !ok {
			return
		}
		count++
		checkSame(t, "ArrowTimes", product, times(t, f, g))
		if domain(t, product) != domain(t, f) {
			t.Errorf("ArrowTimes returned %v with another domain", product)
		}
		if image := must[int](t, "ChartRange"); image(impl.ChartRange(product)) != image(impl.ChartRange(g)) {
			t.Errorf("ArrowTimes returned %v with another range", product)
		}
	})
	count.checkAtLeast(t, 1000)
}

func TestPromise71(t *testing.T) {
	eachArrowsAndGreat(t, func(t *testing.T, list [][]int) {
		sets := objects(t, list)
		for i, set := range sets {
			if i > 0 && sets[i-1] >= set {
				t.Errorf("ArrowObjects does not ascend: %v", sets)
			}
		}
		if those := idems(t, list); len(those) != len(sets) {
			t.Errorf("ArrowObjects returned %v with %d of SemigroupIdems", sets, len(those))
		}
	})
}

func TestPromise72(t *testing.T) {
	var linked counted
	eachArrowsAndGreat(t, func(t *testing.T, list [][]int) {
		sum := 0
		var all []int
		for _, part := range parts(t, list) {
			if len(part) == 0 {
				t.Fatal("ArrowParts returned a part of no objects")
			}
			if len(part) > 1 {
				linked++
			}
			sum += len(part) * len(part) * local(t, list, part[0])
			all = append(all, part...)
		}
		if sum != len(list) {
			t.Errorf("all parts have %d charts together, of %d", sum, len(list))
		}
		slices.Sort(all)
		checkSame(t, "the objects of all parts", all, objects(t, list))
	})
	linked.checkAtLeast(t, 100)
}

func TestPromise73(t *testing.T) {
	var count, more counted
	eachArrowsAndGreat(t, func(t *testing.T, list [][]int) {
		for set := range 1 << len(list[0]) {
			number, ok := impl.ArrowLocal(list, set)
			if !ok {
				continue
			}
			count++
			group := arrows(t, list, set, set)
			if len(group) != number {
				t.Errorf("ArrowLocal returned %d and ArrowFrom %v", number, group)
			}
			if number > 1 {
				more++
			}
			checkHolds(t, "SemigroupGroup of ArrowFrom", impl.SemigroupGroup(group), true)
		}
	})
	count.checkAtLeast(t, 500)
	more.checkAtLeast(t, 100)
}

func TestPromise74(t *testing.T) {
	var some, none counted
	eachArrowsAndGreat(t, func(t *testing.T, list [][]int) {
		sets := fewOf(objects(t, list))
		for _, from := range sets {
			group := local(t, list, from)
			for _, to := range sets {
				there := arrows(t, list, from, to)
				if len(there) == 0 {
					none++
				} else if some++; len(there) != group {
					t.Errorf("ArrowFrom from %d to %d returned %v with %d at the first one", from, to, there, group)
				}
				if from > to {
					continue
				}
				if back := arrows(t, list, to, from); len(back) != len(there) {
					t.Errorf("ArrowFrom from %d to %d returned %v and back %v", from, to, there, back)
				}
			}
		}
	})
	some.checkAtLeast(t, 500)
	none.checkAtLeast(t, 500)
}

func TestPromise75(t *testing.T) {
	var same, unlike counted
	eachArrows(t, func(t *testing.T, list [][]int) {
		few := fewOf(list)
		for p := range list[0] {
			for _, f := range few {
				for _, g := range few {
					if !impl.GermSame(list, f, g, p) {
						unlike++
						continue
					}
					same++
					checkHolds(t, "GermSame of both exchanged", impl.GermSame(list, g, f, p), true)
					if f[p] < 0 || f[p] != g[p] {
						t.Errorf("GermSame holds for %v and %v at %d", f, g, p)
					}
				}
			}
		}
	})
	same.checkAtLeast(t, 500)
	unlike.checkAtLeast(t, 500)
}

func TestPromise76(t *testing.T) {
	var more, none counted
	eachArrowsAndGreat(t, func(t *testing.T, list [][]int) {
		for p := range list[0] {
			count, those := germs(t, list, p), places(t, list, p)
			if count < len(those) || count > len(list) || (count == 0) != (len(those) == 0) {
				t.Errorf("GermCount at %d returned %d with the places %v", p, count, those)
			}
			if count == 0 {
				none++
			} else if count > len(those) {
				more++
			}
		}
	})
	more.checkAtLeast(t, 20)
	none.checkAtLeast(t, 20)
}

func TestPromise77(t *testing.T) {
	var count counted
	eachArrowsAndGreat(t, func(t *testing.T, list [][]int) {
		for p := range list[0] {
			those := places(t, list, p)
			if len(those) == 0 {
				continue
			}
			count++
			if !slices.Contains(those, p) {
				t.Errorf("GermPlaces at %d returned %v", p, those)
			}
			for _, place := range those {
				checkSame(t, "GermPlaces at one of GermPlaces", places(t, list, place), those)
			}
		}
	})
	count.checkAtLeast(t, 300)
}
