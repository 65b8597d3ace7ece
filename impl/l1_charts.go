package impl

import (
	"iter"
	"math/bits"
)

// PointsMax is the greatest number of points of a chart.
const PointsMax = 6

// unmoved stands in the place of where a point is moved that is moved nowhere.
const unmoved = -1

// chart is a chart as a value, so that copies share no memory and == compares them.
// Behind its points the array holds zeros, without which == would not do.
// The zero chart has no points: what fails is computed with it and gives zero values.
type chart struct {
	points int
	to     [PointsMax]int
}

// chartOf returns the chart that a list tells, and whether it is one.
func chartOf(list []int) (chart, bool) {
	n := len(list)
	if n < 1 || n > PointsMax {
		return chart{}, false
	}
	c := still(n)
	met := 0
	for i, to := range list {
		if to == unmoved {
			continue
		}
		if to < 0 || to >= n || hasPoint(met, to) {
			return chart{}, false
		}
		met |= 1 << to
		c.to[i] = to
	}
	return c, true
}

// chartPair returns the charts that two lists tell, and whether they are charts of as many points.
func chartPair(f []int, g []int) (chart, chart, bool) {
	c, first := chartOf(f)
	d, second := chartOf(g)
	if !first || !second || c.points != d.points {
		return chart{}, chart{}, false
	}
	return c, d, true
}

// still returns the chart of n points that moves none of them.
func still(n int) chart {
	c := chart{points: n}
	for i := range n {
		c.to[i] = unmoved
	}
	return c
}

// identity returns the chart of n points that moves all of them to themselves.
func identity(n int) chart {
	c := chart{points: n}
	for i := range n {
		c.to[i] = i
	}
	return c
}

// isSet reports whether a number is a set of n points.
func isSet(n int, set int) bool {
	return set >= 0 && set < 1<<n
}

// hasPoint reports whether a point is in a set.
func hasPoint(set int, point int) bool {
	return set>>point&1 == 1
}

// moved gives each point that is moved, in ascending order, and where it is moved.
func (c chart) moved() iter.Seq2[int, int] {
	return func(yield func(int, int) bool) {
		for i := range c.points {
			if c.to[i] != unmoved && !yield(i, c.to[i]) {
				return
			}
		}
	}
}

// list returns the chart as a list, in new memory.
func (c chart) list() []int {
	list := make([]int, c.points)
	copy(list, c.to[:])
	return list
}

// times returns the product of two charts of as many points.
func (c chart) times(d chart) chart {
	product := still(c.points)
	for i, middle := range c.moved() {
		product.to[i] = d.to[middle]
	}
	return product
}

// turned returns the chart that moves back.
func (c chart) turned() chart {
	back := still(c.points)
	for i, to := range c.moved() {
		back.to[to] = i
	}
	return back
}

// domain returns the set of the points that are moved.
func (c chart) domain() int {
	set := 0
	for i := range c.moved() {
		set |= 1 << i
	}
	return set
}

// image returns the set of the points to which some are moved.
func (c chart) image() int {
	return c.turned().domain()
}

// rank returns the number of points that are moved.
func (c chart) rank() int {
	return bits.OnesCount(uint(c.domain()))
}

// idem reports whether no point is moved to another one.
func (c chart) idem() bool {
	for i, to := range c.moved() {
		if i != to {
			return false
		}
	}
	return true
}

// below reports whether the chart moves each point of its domain as another one of as many points does.
func (c chart) below(d chart) bool {
	return c.meet(d) == c
}

// meet returns the chart of what two charts of as many points move to the same point.
func (c chart) meet(d chart) chart {
	common := still(c.points)
	for i, to := range c.moved() {
		if d.to[i] == to {
			common.to[i] = to
		}
	}
	return common
}

// compatible reports whether two charts of as many points are compatible.
func (c chart) compatible(d chart) bool {
	return c.turned().times(d).idem() && c.times(d.turned()).idem()
}

// join returns the chart that moves as each of two compatible charts does.
func (c chart) join(d chart) chart {
	both := c
	for i, to := range d.moved() {
		both.to[i] = to
	}
	return both
}

// cut returns the chart that moves only points of a set.
func (c chart) cut(set int) chart {
	part := still(c.points)
	for i, to := range c.moved() {
		if hasPoint(set, i) {
			part.to[i] = to
		}
	}
	return part
}

// ChartIn reports whether a list is a chart.
func ChartIn(f []int) bool {
	_, ok := chartOf(f)
	return ok
}

// ChartTimes returns the product of two charts, and true.
func ChartTimes(f []int, g []int) ([]int, bool) {
	c, d, ok := chartPair(f, g)
	return c.times(d).list(), ok
}

// ChartTurned returns the turned chart, and true.
func ChartTurned(f []int) ([]int, bool) {
	c, ok := chartOf(f)
	return c.turned().list(), ok
}

// ChartDomain returns the domain of a chart, and true.
func ChartDomain(f []int) (int, bool) {
	c, ok := chartOf(f)
	return c.domain(), ok
}

// ChartRange returns the range of a chart, and true.
func ChartRange(f []int) (int, bool) {
	c, ok := chartOf(f)
	return c.image(), ok
}

// ChartRank returns the rank of a chart, and true.
func ChartRank(f []int) (int, bool) {
	c, ok := chartOf(f)
	return c.rank(), ok
}

// ChartSet returns the chart of n points that moves the points of a set to themselves and no others, and true.
func ChartSet(n int, set int) ([]int, bool) {
	if n < 1 || n > PointsMax || !isSet(n, set) {
		return nil, false
	}
	return identity(n).cut(set).list(), true
}

// ChartIdem reports whether a chart moves no point to another one.
func ChartIdem(f []int) bool {
	c, ok := chartOf(f)
	return ok && c.idem()
}

// ChartBelow reports whether a chart is below another one.
func ChartBelow(f []int, g []int) bool {
	c, d, ok := chartPair(f, g)
	return ok && c.below(d)
}

// ChartMeet returns the chart that moves the points that both charts move to the same point, and true.
func ChartMeet(f []int, g []int) ([]int, bool) {
	c, d, ok := chartPair(f, g)
	return c.meet(d).list(), ok
}

// ChartCompatible reports whether two charts are compatible.
func ChartCompatible(f []int, g []int) bool {
	c, d, ok := chartPair(f, g)
	return ok && c.compatible(d)
}

// ChartJoin returns the chart that moves as each of two compatible charts does, and true.
func ChartJoin(f []int, g []int) ([]int, bool) {
	c, d, ok := chartPair(f, g)
	if !ok || !c.compatible(d) {
		return nil, false
	}
	return c.join(d).list(), true
}

// ChartCut returns the chart cut down to the points of a set, and true.
func ChartCut(f []int, set int) ([]int, bool) {
	c, ok := chartOf(f)
	if !ok || !isSet(c.points, set) {
		return nil, false
	}
	return c.cut(set).list(), true
}
