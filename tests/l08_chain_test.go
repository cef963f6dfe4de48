package tests

import (
	"math"
	"slices"
	"testing"

	"loop.example/g00831/impl"
)

func checkChain(t *testing.T, c impl.Chart, list []impl.Passage, want bool) {
	t.Helper()
	if got := impl.IsChain(c, list); got != want {
		t.Errorf("IsChain(%v, %+v) is %v", c, list, got)
	}
}

func chainOf(list ...impl.Passage) []impl.Passage { return list }

func TestIsChain(t *testing.T) {
	c := fullChart()
	there, onward, end := passageOf(1, 0, 10, 11), backward(passageOf(1, 1, 11, 251)), passageOf(1, 2, 300, 320)
	checkChain(t, c, nil, true)
	checkChain(t, c, chainOf(), true)
	checkChain(t, impl.Chart{}, nil, true)
	checkChain(t, c, chainOf(there), true)
	checkChain(t, c, chainOf(backward(there)), true)
	checkChain(t, c, chainOf(there, onward, end), true)
	checkChain(t, c, chainOf(onward, end), true)
	checkChain(t, c, chainOf(there, end), false)
	checkChain(t, c, chainOf(onward, there), false)
	checkChain(t, c, chainOf(backward(there), onward, end), false)
	checkChain(t, c, chainOf(there, passageOf(1, 1, 11, 251), end), false)
	checkChain(t, c, chainOf(there, onward, backward(end)), false)
}

// A chain may come back to a point, unlike a route.
func TestIsChainThereAndBack(t *testing.T) {
	c := fullChart()
	checkChain(t, c, chainOf(passageOf(0, 0, 0, 1), backward(passageOf(0, 0, 1, 2)), passageOf(0, 0, 2, 3)), true)
	checkChain(t, c, chainOf(passageOf(0, 0, 0, 1), passageOf(0, 0, 1, 2)), false)
	checkChain(t, c, chainOf(backward(passageOf(0, 0, 0, 1)), backward(passageOf(0, 0, 1, 2))), false)
	var list []impl.Passage
	for n := range 400 {
		p := passageOf(3, 8, n, n+1)
		if n%2 == 1 {
			p = backward(p)
		}
		list = append(list, p)
	}
	checkChain(t, c, list, true)
	list[399].Toward = true
	checkChain(t, c, list, false)
}

// A passage may begin at the End of the one before, but not before it.
func TestIsChainInTime(t *testing.T) {
	c := fullChart()
	for _, end := range []int{math.MinInt + 1, -5, 0, 11, 251, 2880, 5000, math.MaxInt - 1} {
		for more := -1; more <= 1; more++ {
			checkChain(t, c, chainOf(passageOf(1, 0, 10, end), backward(passageOf(1, 1, end+more, 251))), more >= 0)
			checkChain(t, c, chainOf(passageOf(1, 5, 7, 8), passageOf(1, 0, 10, end), backward(passageOf(1, 1, end+more, 251))), more >= 0)
			checkChain(t, c, chainOf(passageOf(1, 0, 10, end), backward(passageOf(1, 1, end+more, 251)), passageOf(1, 2, 300, 320)), more >= 0)
		}
	}
	checkChain(t, c, chainOf(passageOf(1, 0, 0, math.MinInt), backward(passageOf(1, 1, math.MinInt, 0))), true)
	checkChain(t, c, chainOf(passageOf(1, 0, 0, math.MinInt), backward(passageOf(1, 1, math.MaxInt, 0))), true)
	checkChain(t, c, chainOf(passageOf(1, 0, 0, math.MaxInt), backward(passageOf(1, 1, math.MaxInt, 0))), true)
	checkChain(t, c, chainOf(passageOf(1, 0, 0, math.MaxInt), backward(passageOf(1, 1, math.MinInt, 0))), false)
	checkChain(t, c, chainOf(passageOf(1, 0, 0, math.MaxInt), backward(passageOf(1, 1, math.MaxInt-1, 0))), false)
}

// Whether a passage takes the ship's time, and lies in time at all, is not asked.
func TestIsChainOfOnePassage(t *testing.T) {
	for _, start := range minutesToTry() {
		for _, end := range minutesToTry() {
			for _, ship := range numbersAround(6) {
				checkChain(t, channel(800, 30), chainOf(passageOf(ship, 0, start, end)), true)
				checkChain(t, channel(800, 30), chainOf(backward(passageOf(ship, 0, start, end))), true)
				checkChain(t, channel(800, 30), chainOf(passageOf(ship, 1, start, end)), false)
				checkChain(t, channel(800, 30), chainOf(passageOf(ship, -1, start, end)), false)
			}
		}
	}
}

func TestIsChainOfTwoShips(t *testing.T) {
	c := lane("....", stretch(0, 10), stretch(0, 10), stretch(0, 10))
	list := chainOf(passageOf(2, 0, 0, 10), backward(passageOf(2, 1, 10, 20)), passageOf(2, 2, 20, 30))
	checkChain(t, c, list, true)
	for at := range list {
		for _, ship := range []int{math.MinInt, -1, 0, 1, 3, math.MaxInt} {
			other := slices.Clone(list)
			other[at].Ship = ship
			checkChain(t, c, other, false)
			for i := range other {
				other[i].Ship = ship
			}
			checkChain(t, c, other, true)
		}
	}
}

func TestIsChainWithoutASegment(t *testing.T) {
	for _, c := range []impl.Chart{fullChart(), lane("....", stretch(0, 10), stretch(0, 10), stretch(0, 10))} {
		for _, wrong := range []int{math.MinInt, -1, len(c.Segments), len(c.Segments) + 1, math.MaxInt} {
			for at := range 3 {
				list := chainOf(passageOf(2, 0, 0, 10), backward(passageOf(2, 1, 10, 20)), passageOf(2, 2, 20, 30))
				checkChain(t, c, list, true)
				list[at].Segment = wrong
				checkChain(t, c, list, false)
				checkChain(t, c, list[at:], false)
				checkChain(t, c, list[:at+1], false)
				checkChain(t, c, list[:at], true)
			}
		}
	}
	checkChain(t, impl.Chart{}, chainOf(impl.Passage{}), false)
	checkChain(t, chartOf(somePoints(8)), chainOf(impl.Passage{}), false)
}

func TestIsChainRefusesCharts(t *testing.T) {
	for _, c := range badCharts() {
		checkChain(t, c, nil, false)
		for number := range c.Segments {
			checkChain(t, c, chainOf(passageOf(0, number, 0, 30)), false)
			checkChain(t, c, chainOf(passageOf(0, number, 0, 30), backward(passageOf(0, number, 30, 60))), false)
		}
	}
}

// slowChain asks for the points of each passage by the document.
func slowChain(c impl.Chart, list []impl.Passage) bool {
	chained := true
	for i, p := range list {
		if p.Segment < 0 || p.Segment >= len(c.Segments) {
			return false
		}
		if i == 0 {
			continue
		}
		before := list[i-1]
		points := map[bool][2]int{true: {c.Segments[before.Segment].A, c.Segments[before.Segment].B}, false: {c.Segments[before.Segment].B, c.Segments[before.Segment].A}}
		begins := map[bool]int{true: c.Segments[p.Segment].A, false: c.Segments[p.Segment].B}
		chained = chained && before.Ship == p.Ship && points[before.Toward][1] == begins[p.Toward] && before.End <= p.Start
	}
	return chained
}

func TestIsChainOfEveryTwoPassages(t *testing.T) {
	for _, c := range []impl.Chart{chartOf(somePoints(3), segment(0, 1, 9), segment(2, 1, 9)), chartOf(somePoints(3), segment(1, 2, 9), segment(0, 1, 9), segment(2, 0, 9))} {
		for _, n := range beginsOf([]int{-1, 0, 1, 2, 3}, 2) {
			for _, e := range beginsOf([]int{8, 9, 10}, 2) {
				for _, ships := range [][2]int{{0, 0}, {0, 1}} {
					a, b := passageOf(ships[0], n[0], 0, e[0]), passageOf(ships[1], n[1], e[1], 30)
					for _, list := range [][]impl.Passage{{a, b}, {backward(a), b}, {a, backward(b)}, {backward(a), backward(b)}} {
						checkChain(t, c, list, slowChain(c, list))
					}
				}
			}
		}
	}
}

func TestIsChainOfEveryThreePassages(t *testing.T) {
	c := chartOf(somePoints(3), segment(1, 0, 9), segment(1, 2, 9), segment(2, 0, 9))
	for _, n := range beginsOf([]int{0, 1, 2, 3}, 3) {
		for way := range 8 {
			list := chainOf(passageOf(5, n[0], 0, 10), passageOf(5, n[1], 10, 20), passageOf(5, n[2], 20, 30))
			for i := range list {
				list[i].Toward = way>>i&1 == 1
			}
			checkChain(t, c, list, slowChain(c, list))
		}
	}
}
