package tests

import (
	"math"
	"slices"
	"testing"

	"loop.example/g00831/impl"
)

func checkArrival(t *testing.T, c impl.Chart, s impl.Ship, route []int, starts []int, want int) {
	t.Helper()
	if got := impl.ArrivalOf(c, s, route, starts); got != want {
		t.Errorf("ArrivalOf(%v, %+v, %v, %v) is %d, want %d", c, s, route, starts, got, want)
	}
}

func TestArrivalOf(t *testing.T) {
	c, quick, slow := fullChart(), deep(800), slowly(deep(800))
	for _, w := range []struct {
		route, starts   []int
		forQuick, forIt int
	}{
		{[]int{0}, []int{0}, 1, 2}, {[]int{1}, []int{0}, 240, 480}, {[]int{8}, []int{100}, 109, 118}, {[]int{0, 1}, []int{100, 150}, 390, 630}, {[]int{1, 0}, []int{100, 400}, 401, 402},
		{[]int{0, 1, 2}, []int{7, 9, 300}, 320, 340}, {[]int{5, 4, 3, 2, 1, 9, 8}, []int{1, 2, 3, 4, 5, 6, 7}, 16, 25},
		// The end may be later than MaxMinute.
		{[]int{1}, []int{2640}, 2880, 3120}, {[]int{1}, []int{2641}, 2881, 3121}, {[]int{1}, []int{2880}, 3120, 3360}, {[]int{0}, []int{2880}, 2881, 2882}, {[]int{1, 0}, []int{0, 2880}, 2881, 2882},
	} {
		checkArrival(t, c, quick, w.route, w.starts, w.forQuick)
		checkArrival(t, c, slow, w.route, w.starts, w.forIt)
	}
}

// The list of segments need not be a route, and only the last start must be a minute.
func TestArrivalOfListsThatAreNoRoutes(t *testing.T) {
	c, s := fullChart(), deep(800)
	for _, route := range [][]int{{0, 0}, {0, 2}, {0, 5}, {0, 8}, {7, 3}} {
		for _, first := range minutesToTry() {
			checkArrival(t, c, s, route, []int{first, 50}, 50+c.Segments[route[1]].Minutes)
		}
	}
	checkArrival(t, c, s, []int{1, 8, 0}, []int{900, -5, 30}, 31)
	checkArrival(t, c, s, []int{0, 1, 2, 6}, []int{9, 8, 7, 6}, 66)
	checkArrival(t, c, s, slices.Repeat([]int{4, 0}, 5000), slices.Repeat([]int{9000, 6}, 5000), 7)
}

func TestArrivalOfTheLastStart(t *testing.T) {
	c := fullChart()
	for _, s := range []impl.Ship{deep(800), slowly(deep(800))} {
		for number := range c.Segments {
			for _, last := range append(beyondTime(), 0, 1, 2879, 2880) {
				want := -1
				if within(last, 0, 2880) {
					want = last + slowMinutes(c, number, s)
				}
				checkArrival(t, c, s, []int{number}, []int{last}, want)
				checkArrival(t, c, s, []int{3, number}, []int{70, last}, want)
				checkArrival(t, c, s, []int{3, 4, number}, []int{70, -1, last}, want)
			}
		}
	}
}

func TestArrivalOfListsOfDifferentLengths(t *testing.T) {
	c, s := fullChart(), deep(800)
	for n := range 12 {
		for m := range 12 {
			route, starts := slices.Repeat([]int{3}, n), slices.Repeat([]int{100}, m)
			want := -1
			if n == m && n > 0 {
				want = 120
			}
			checkArrival(t, c, s, route, starts, want)
		}
	}
	checkArrival(t, c, s, nil, nil, -1)
	checkArrival(t, c, s, []int{}, []int{}, -1)
	checkArrival(t, c, s, nil, []int{0}, -1)
	checkArrival(t, c, s, []int{0}, nil, -1)
}

// An element that is no segment fails the list at each place, not only at the last one.
func TestArrivalOfListsWithoutASegment(t *testing.T) {
	for _, c := range goodCharts() {
		for _, wrong := range []int{math.MinInt, -1, len(c.Segments), len(c.Segments) + 1, math.MaxInt} {
			checkArrival(t, c, deep(800), []int{wrong}, []int{0}, -1)
			for i := range 4 {
				if len(c.Segments) > 0 {
					checkArrival(t, c, deep(800), slices.Insert([]int{0, 0, 0}, i, wrong), []int{0, 1, 2, 3}, -1)
				}
			}
		}
	}
}

func TestArrivalOfRefuses(t *testing.T) {
	for _, s := range badShips() {
		checkArrival(t, fullChart(), s, []int{0}, []int{0}, -1)
		checkArrival(t, fullChart(), s, []int{0, 1, 2}, []int{0, 1, 241}, -1)
	}
	for _, c := range badCharts() {
		checkArrival(t, c, deep(800), nil, nil, -1)
		for number := range c.Segments {
			checkArrival(t, c, deep(800), []int{number}, []int{0}, -1)
			checkArrival(t, c, slowly(deep(800)), []int{number, number}, []int{0, 300}, -1)
		}
	}
	checkArrival(t, impl.Chart{}, impl.Ship{}, nil, nil, -1)
}

func checkPassages(t *testing.T, c impl.Chart, ship int, s impl.Ship, from int, route []int, starts []int, want ...impl.Passage) {
	t.Helper()
	if got := impl.PassagesOf(c, ship, s, from, route, starts); !slices.Equal(got, want) {
		t.Errorf("PassagesOf(%v, %d, %+v, %d, %v, %v) is %+v, want %+v", c, ship, s, from, route, starts, got, want)
	}
}

func TestPassagesOf(t *testing.T) {
	c, quick, slow := fullChart(), deep(800), slowly(deep(800))
	checkPassages(t, c, 0, quick, 0, []int{0}, []int{7}, passageOf(0, 0, 7, 8))
	checkPassages(t, c, 0, quick, 1, []int{0}, []int{7}, backward(passageOf(0, 0, 7, 8)))
	checkPassages(t, c, 3, slow, 1, []int{0}, []int{7}, backward(passageOf(3, 0, 7, 9)))
	checkPassages(t, c, 2, quick, 0, []int{0, 1, 2}, []int{0, 10, 300}, passageOf(2, 0, 0, 1), backward(passageOf(2, 1, 10, 250)), passageOf(2, 2, 300, 320))
	checkPassages(t, c, 2, slow, 3, []int{2, 1, 0}, []int{0, 10, 300}, backward(passageOf(2, 2, 0, 40)), passageOf(2, 1, 10, 490), backward(passageOf(2, 0, 300, 302)))
	checkPassages(t, c, 1, quick, 3, []int{6, 5}, []int{0, 2880}, passageOf(1, 6, 0, 60), backward(passageOf(1, 5, 2880, 2911)))
	// The starts need not be in order, nor fit the times of the ship.
	checkPassages(t, c, 0, quick, 0, []int{0, 1}, []int{2880, 0}, passageOf(0, 0, 2880, 2881), backward(passageOf(0, 1, 0, 240)))
	checkPassages(t, c, 0, quick, 0, []int{0, 9}, []int{5, 5}, passageOf(0, 0, 5, 6), passageOf(0, 9, 5, 22))
}

func TestPassagesOfTheEmptyRoute(t *testing.T) {
	for _, c := range goodCharts() {
		for _, from := range numbersAround(len(c.Points)) {
			checkPassages(t, c, 0, deep(800), from, nil, nil)
			checkPassages(t, c, 0, deep(800), from, []int{}, []int{})
			checkPassages(t, c, 0, deep(800), from, nil, []int{5})
		}
	}
}

// The index is not looked up in any fleet.
func TestPassagesOfAnyShip(t *testing.T) {
	for _, ship := range append(numbersAround(6), 299) {
		checkPassages(t, fullChart(), ship, deep(800), 0, []int{0, 9}, []int{5, 6}, passageOf(ship, 0, 5, 6), passageOf(ship, 9, 6, 23))
	}
}

// slowPassages goes along a route by its points.
func slowPassages(c impl.Chart, ship int, s impl.Ship, points []int, route []int, starts []int) []impl.Passage {
	var list []impl.Passage
	for i, number := range route {
		p := passageOf(ship, number, starts[i], starts[i]+slowMinutes(c, number, s))
		if c.Segments[number].B == points[i] {
			p = backward(p)
		}
		list = append(list, p)
	}
	return list
}

func TestPassagesOfEveryRoute(t *testing.T) {
	minutes := []int{5, 2880, 0, 77, 2860, 300, 9}
	lists := beginsOf([]int{-1, 0, 1, 2, 3, 4, 5, 6}, 3)
	for _, c := range []impl.Chart{chartOf(somePoints(4), pairsOf(4)...), completeChart(), fullChart()} {
		for _, s := range []impl.Ship{deep(800), slowly(deep(800))} {
			for from := range c.Points {
				for _, route := range lists {
					var want []impl.Passage
					if points := slowPoints(c, from, route); len(points) > 0 {
						want = slowPassages(c, 4, s, points, route, minutes)
					}
					checkPassages(t, c, 4, s, from, route, minutes[:len(route)], want...)
				}
			}
		}
	}
}

func TestPassagesOfStartsBeyondTime(t *testing.T) {
	c, s := fullChart(), deep(800)
	for at := range 3 {
		for _, start := range append(beyondTime(), 0, 2879, 2880) {
			starts := []int{10, 20, 300}
			starts[at] = start
			var want []impl.Passage
			if within(start, 0, 2880) {
				want = slowPassages(c, 0, s, []int{0, 1, 2, 3}, []int{0, 1, 2}, starts)
			}
			checkPassages(t, c, 0, s, 0, []int{0, 1, 2}, starts, want...)
			checkPassages(t, c, 0, s, 0, []int{0, 1, 2}, slices.Repeat([]int{start}, at))
		}
	}
}

func TestPassagesOfListsOfDifferentLengths(t *testing.T) {
	v := trip{c: lane("........", slices.Repeat([]impl.Segment{stretch(3000, 240)}, 7)...), s: deep(800)}
	for n := range 8 {
		for m := range 10 {
			starts := slices.Repeat([]int{100}, m)
			var want []impl.Passage
			if n == m {
				want = slowPassages(v.c, 1, v.s, along(8), along(n), starts)
			}
			checkPassages(t, v.c, 1, v.s, 0, along(n), starts, want...)
		}
	}
}

func TestPassagesOfRefuses(t *testing.T) {
	for _, s := range badShips() {
		checkPassages(t, fullChart(), 0, s, 0, []int{0}, []int{0})
		checkPassages(t, fullChart(), 0, s, 0, []int{0, 1, 2}, []int{0, 1, 241})
	}
	for _, c := range badCharts() {
		checkPassages(t, c, 0, deep(800), 0, nil, nil)
		for number, s := range c.Segments {
			checkPassages(t, c, 0, deep(800), s.A, []int{number}, []int{0})
			checkPassages(t, c, 0, deep(800), s.B, []int{number}, []int{0})
		}
	}
	for _, from := range []int{math.MinInt, -1, 2, 7, 8, math.MaxInt} {
		checkPassages(t, fullChart(), 0, deep(800), from, []int{0}, []int{0})
	}
	for _, route := range [][]int{{10}, {-1}, {1}, {0, 0}, {0, 2}, {6, 4}, {0, 10}, {0, -1}} {
		checkPassages(t, fullChart(), 0, deep(800), 0, route, slices.Repeat([]int{9}, len(route)))
	}
}
