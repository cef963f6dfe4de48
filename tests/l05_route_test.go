package tests

import (
	"math"
	"slices"
	"testing"

	"loop.example/g00831/impl"
)

// slowPoints follows a route by what the document says of it, and gives nil for a list that is no route.
func slowPoints(c impl.Chart, from int, route []int) []int {
	if from < 0 || from >= len(c.Points) {
		return nil
	}
	points, here, visits := []int{from}, from, make([]int, len(c.Points))
	visits[from]++
	for _, i := range route {
		if i < 0 || i >= len(c.Segments) || c.Segments[i].A != here && c.Segments[i].B != here {
			return nil
		}
		here = c.Segments[i].A + c.Segments[i].B - here
		visits[here]++
		points = append(points, here)
	}
	if slices.Max(visits) > 1 {
		return nil
	}
	return points
}

func checkRoute(t *testing.T, c impl.Chart, from int, route []int, want []int) {
	t.Helper()
	if got := impl.RouteOk(c, from, route); got != (len(want) > 0) {
		t.Errorf("RouteOk(%v, %d, %v) is %v", c, from, route, got)
	}
	if got := impl.RoutePoints(c, from, route); !slices.Equal(got, want) {
		t.Errorf("RoutePoints(%v, %d, %v) is %v, want %v", c, from, route, got, want)
	}
}

func TestRoutes(t *testing.T) {
	c := fullChart()
	checkRoute(t, c, 0, nil, []int{0})
	checkRoute(t, c, 7, []int{}, []int{7})
	checkRoute(t, c, 0, []int{0}, []int{0, 1})
	checkRoute(t, c, 1, []int{0}, []int{1, 0})
	checkRoute(t, c, 0, []int{0, 1, 2, 3, 4}, []int{0, 1, 2, 3, 4, 5})
	checkRoute(t, c, 0, []int{5, 4, 3, 2, 1}, []int{0, 5, 4, 3, 2, 1})
	checkRoute(t, c, 7, []int{8, 7, 1, 0, 6, 3, 4}, []int{7, 6, 2, 1, 0, 3, 4, 5})
	checkRoute(t, c, 5, []int{4, 9, 1, 7, 8}, []int{5, 4, 1, 2, 6, 7})
}

func TestListsThatAreNoRoutes(t *testing.T) {
	c := fullChart()
	back := [][]int{{0, 1, 2, 6}, {0, 9, 3, 6}, {5, 4, 9, 0}, {0, 0}, {6, 2, 1, 0}}
	crossing := [][]int{{0, 1, 2, 3, 9}, {5, 4, 3, 2, 1, 9}, {6, 3, 9, 1, 2}, {0, 1, 7, 7}, {6, 6, 0}, {0, 1, 1}, {0, 1, 2, 3, 4, 5, 0}}
	apart := [][]int{{1}, {0, 2}, {0, 5}, {8}, {0, 1, 8}, {7, 8}, {6, 0}, {6, 4}, {2, 3}}
	missing := [][]int{{10}, {-1}, {0, 10}, {0, -1}, {0, 1, 2, 11}, {math.MaxInt}, {math.MinInt}, {0, math.MaxInt, 1}, {0, math.MinInt}}
	for _, route := range slices.Concat(back, crossing, apart, missing) {
		checkRoute(t, c, 0, route, nil)
	}
	for _, from := range []int{-1, 8, 9, math.MinInt, math.MaxInt} {
		for _, route := range [][]int{nil, {0}, {5}, {8}, {0, 1}, {-1}} {
			checkRoute(t, c, from, route, nil)
		}
	}
	checkRoute(t, impl.Chart{}, 0, nil, nil)
	checkRoute(t, chartOf(somePoints(1)), 0, []int{0}, nil)
	checkRoute(t, c, 0, slices.Repeat([]int{0, 5}, 5000), nil)
}

func TestRoutesOfEveryList(t *testing.T) {
	lists := slices.Concat(beginsOf([]int{-1, 0, 1, 2, 3, 4, 5, 6}, 3), beginsOf([]int{0, 1, 2, 3, 4, 5}, 4), beginsOf([]int{0, 1, 3, 5}, 5))
	for _, c := range []impl.Chart{chartOf(somePoints(4), pairsOf(4)...), chartOf(somePoints(4), segment(3, 2, 9), segment(1, 0, 9), segment(2, 1, 9)), completeChart(), fullChart()} {
		for from := range c.Points {
			for _, route := range lists {
				checkRoute(t, c, from, route, slowPoints(c, from, route))
			}
		}
	}
}

func TestShortRoutesOfEveryChart(t *testing.T) {
	for _, c := range goodCharts() {
		for _, from := range numbersAround(len(c.Points)) {
			checkRoute(t, c, from, nil, slowPoints(c, from, nil))
			for _, i := range numbersAround(len(c.Segments)) {
				checkRoute(t, c, from, []int{i}, slowPoints(c, from, []int{i}))
			}
		}
	}
}

func checkMinutes(t *testing.T, c impl.Chart, route []int, want int) {
	t.Helper()
	if got := impl.RouteMinutes(c, route); got != want {
		t.Errorf("RouteMinutes(%v, %v) is %d, want %d", c, route, got, want)
	}
}

// The list need not be a route.
func TestRouteMinutes(t *testing.T) {
	c := fullChart()
	checkMinutes(t, c, nil, 0)
	checkMinutes(t, c, []int{}, 0)
	checkMinutes(t, impl.Chart{}, nil, 0)
	checkMinutes(t, c, []int{0}, 1)
	checkMinutes(t, c, []int{1}, 240)
	checkMinutes(t, c, []int{0, 1, 2}, 261)
	checkMinutes(t, c, []int{0, 1, 2, 3, 4, 5, 6, 7, 8, 9}, 433)
	checkMinutes(t, c, []int{5, 5}, 62)
	checkMinutes(t, c, []int{8, 0, 8, 0, 8}, 29)
	checkMinutes(t, c, []int{9, 5}, 48)
	checkMinutes(t, c, slices.Repeat([]int{1, 4}, 5000), 1350000)
}

func TestRouteMinutesOfEverySegment(t *testing.T) {
	for _, c := range goodCharts() {
		sum := 0
		var all []int
		for i, s := range c.Segments {
			checkMinutes(t, c, []int{i}, s.Minutes)
			sum += s.Minutes
			all = append(all, i)
			checkMinutes(t, c, all, sum)
		}
		for _, wrong := range []int{math.MinInt, -1, len(c.Segments), len(c.Segments) + 1, math.MaxInt} {
			for i := range len(all) + 1 {
				checkMinutes(t, c, slices.Insert(slices.Clone(all), i, wrong), -1)
			}
		}
	}
}

func TestRoutesOfBadCharts(t *testing.T) {
	for _, c := range badCharts() {
		checkMinutes(t, c, nil, -1)
		checkMinutes(t, c, []int{0}, -1)
		checkMinutes(t, c, []int{0, 10, -1}, -1)
		for from := range len(c.Points) + 1 {
			checkRoute(t, c, from, nil, nil)
		}
		for i, s := range c.Segments {
			checkMinutes(t, c, []int{i}, -1)
			checkRoute(t, c, s.A, []int{i}, nil)
			checkRoute(t, c, s.B, []int{i}, nil)
		}
	}
}
