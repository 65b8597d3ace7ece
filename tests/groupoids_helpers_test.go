package tests

import (
	"math"
	"slices"
	"testing"

	"loop.example/partialcharts/impl"
)

// The next functions say what the document says of arrows and germs, without the program.

// joinsOf reports whether the range of a chart is the domain of another one of as many points.
func joinsOf(f, g []int) bool {
	return len(f) == len(g) && rangeOf(f) == domainOf(g)
}

// objectsOf returns the domains of charts, in ascending order.
func objectsOf(list [][]int) []int {
	var objects []int
	for set := range 1 << len(list[0]) {
		if slices.ContainsFunc(list, func(f []int) bool { return domainOf(f) == set }) {
			objects = append(objects, set)
		}
	}
	return objects
}

// arrowsOf returns the charts from one set to another one.
func arrowsOf(list [][]int, from, to int) [][]int {
	return keepOf(list, func(f []int) bool { return domainOf(f) == from && rangeOf(f) == to })
}

// arrowPartsOf begins with a part for each object, and puts the parts of linked objects together as long as there are such.
func arrowPartsOf(list [][]int) [][]int {
	partAt := map[int]int{}
	for _, set := range objectsOf(list) {
		partAt[set] = set
	}
	for changed := true; changed; {
		changed = false
		for _, f := range list {
			from, to := partAt[domainOf(f)], partAt[rangeOf(f)]
			if from != to {
				partAt[domainOf(f)], partAt[rangeOf(f)] = min(from, to), min(from, to)
				changed = true
			}
		}
	}
	var parts [][]int
	for _, first := range objectsOf(list) {
		if partAt[first] != first {
			continue
		}
		part := slices.DeleteFunc(objectsOf(list), func(set int) bool { return partAt[set] != first })
		parts = append(parts, part)
	}
	return parts
}

// movesOf reports whether a chart moves a point.
func movesOf(f []int, p int) bool {
	return p >= 0 && p < len(f) && f[p] >= 0
}

// germSameOf looks for a chart of a semigroup that moves a point and is below two others, all of the semigroup.
func germSameOf(list [][]int, f, g []int, p int) bool {
	return movesOf(f, p) && movesOf(g, p) && slices.ContainsFunc(list, func(h []int) bool {
		return movesOf(h, p) && belowOf(h, f) && belowOf(h, g)
	})
}

// germsOf returns one chart of each germ at a point.
func germsOf(list [][]int, p int) [][]int {
	var germs [][]int
	for _, f := range list {
		if movesOf(f, p) && !slices.ContainsFunc(germs, func(g []int) bool { return germSameOf(list, f, g, p) }) {
			germs = append(germs, f)
		}
	}
	return germs
}

// placesOf returns the points to which charts move a point, in ascending order.
func placesOf(list [][]int, p int) []int {
	var places []int
	for place := range len(list[0]) {
		if slices.ContainsFunc(list, func(f []int) bool { return f[p] == place }) {
			places = append(places, place)
		}
	}
	return places
}

// Some more semigroups: the chart that moves nothing, and some with it; two parts of two objects each,
// beside each other and in turn; two groups with two objects each;
// and two charts with something below in common that moves the point 0 and no other one.
var (
	nothing   = [][]int{{-1, -1, -1}}
	asides    = closureOf([][]int{{1, -1, -1, -1}, {-1, -1, 3, -1}})
	inTurns   = closureOf([][]int{{2, -1, -1, -1}, {-1, 3, -1, -1}})
	crossed   = closureOf([][]int{{2, -1, -1}, {-1, 1, -1}})
	twoTurned = closureOf([][]int{{2, 3, -1, -1, -1, -1}, {1, 0, -1, -1, -1, -1}, {-1, -1, -1, -1, 5, -1}})
	branching = [][]int{{0, -1, -1, -1}, {0, 1, 2, 3}, {0, 1, 3, 2}}
)

// moreSemigroups lists them and some others in which charts that move a point to the same one have different germs at it.
func moreSemigroups() [][][]int {
	return [][][]int{
		{{-1}},
		{{-1}, {0}},
		nothing,
		asides,
		inTurns,
		crossed,
		twoTurned,
		branching,
		{{0, 1, 2}, {0, 2, 1}},
		{{0, -1, -1}, {0, 1, 2}, {0, 2, 1}},
		{{-1, -1, -1}, {0, 1, 2}, {0, 2, 1}},
		{{-1, 1, -1}, {-1, 1, 2}, {0, 1, -1}, {0, 1, 2}},
		closureOf([][]int{{0, 1, 3, 2, 4, 5}, {0, 1, 2, 3, 5, 4}, {0, 1, -1, -1, 4, 5}}),
		closureOf([][]int{{0, 2, 1, 3, 4, 5}, {1, -1, -1, 4, -1, -1}}),
		closureOf([][]int{{1, 0, 3, 2, -1, -1}, {-1, -1, 4, 5, 2, 3}}),
		closureOf([][]int{{1, 2, 3, 4, 5, 0}, {0, -1, -1, 3, -1, -1}}),
		closureOf([][]int{{5, 4, 3, 2, 1, 0}, {0, 1, 2, -1, -1, -1}}),
		closureOf([][]int{{0, 2, 1, 3, 5, 4}, {0, -1, -1, 3, 4, 5}, {3, -1, -1, 0, -1, -1}}),
	}
}

// eachArrows checks something for every one of the small semigroups and of these.
func eachArrows(t *testing.T, check func(t *testing.T, list [][]int)) {
	t.Helper()
	eachSmallSemigroup(t, check)
	for _, list := range moreSemigroups() {
		check(t, list)
		if t.Failed() {
			t.Fatalf("with the semigroup %v", list)
		}
	}
}

// eachArrowsAndGreat checks something for every one of them and of those with many charts.
func eachArrowsAndGreat(t *testing.T, check func(t *testing.T, list [][]int)) {
	t.Helper()
	eachArrows(t, check)
	for _, list := range greatSemigroups() {
		check(t, list)
		if t.Failed() {
			t.Fatalf("with the semigroup of %d charts of %d points", len(list), len(list[0]))
		}
	}
}

// fewOf returns all elements of a short list, and some of a long one, the first and the last among them.
func fewOf[T any](list []T) []T {
	step := len(list)/10 + 1
	var few []T
	for i := 0; i < len(list)-1; i += step {
		few = append(few, list[i])
	}
	return append(few, list[len(list)-1])
}

// noPoints are numbers that are no points of charts of n points.
func noPoints(n int) []int {
	return []int{-1, -2, -64, n, n + 1, impl.PointsMax + 1, 31, 32, 63, 64, 1 << 32, math.MaxInt, math.MinInt, math.MinInt + 1}
}

// noObjects are sets of as many points as the charts of a semigroup that are no objects of it, and numbers that are no sets.
func noObjects(list [][]int) []int {
	n := len(list[0])
	objects := objectsOf(list)
	none := noSets(n)
	for set := range 1 << n {
		if !slices.Contains(objects, set) {
			none = append(none, set)
		}
	}
	return none
}
