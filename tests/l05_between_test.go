package tests

import (
	"math"
	"slices"
	"testing"

	"loop.example/g00831/impl"
)

// pathsTo gives all lists of different points that begin with the path and end with the point to, whether segments join them or not.
func pathsTo(points int, path []int, to int) [][]int {
	if path[len(path)-1] == to {
		return [][]int{slices.Clone(path)}
	}
	var paths [][]int
	for next := range points {
		if !slices.Contains(path, next) {
			paths = append(paths, pathsTo(points, append(slices.Clone(path), next), to)...)
		}
	}
	return paths
}

// segmentsAlong gives the segments that join the points of a path, and false if two of them are not joined.
func segmentsAlong(c impl.Chart, path []int) ([]int, bool) {
	route := []int{}
	for k := range len(path) - 1 {
		i := slices.IndexFunc(c.Segments, func(s impl.Segment) bool {
			return min(s.A, s.B) == min(path[k], path[k+1]) && max(s.A, s.B) == max(path[k], path[k+1])
		})
		if i < 0 {
			return nil, false
		}
		route = append(route, i)
	}
	return route, true
}

// slowRoutes looks for routes by their points, and sorts what it has found.
func slowRoutes(c impl.Chart, from int, to int) [][]int {
	if min(from, to) < 0 || max(from, to) >= len(c.Points) {
		return nil
	}
	var routes [][]int
	for _, path := range pathsTo(len(c.Points), []int{from}, to) {
		if route, ok := segmentsAlong(c, path); ok {
			routes = append(routes, route)
		}
	}
	slices.SortFunc(routes, slices.Compare)
	return routes
}

// quickestOf gives the first of the routes that takes no longer than any other one.
func quickestOf(c impl.Chart, routes [][]int) []int {
	minutes := func(route []int) int {
		sum := 0
		for _, i := range route {
			sum += c.Segments[i].Minutes
		}
		return sum
	}
	for _, route := range routes {
		if !slices.ContainsFunc(routes, func(other []int) bool { return minutes(other) < minutes(route) }) {
			return route
		}
	}
	return nil
}

func checkBetween(t *testing.T, c impl.Chart, from int, to int, want [][]int) {
	t.Helper()
	if got := impl.RoutesBetween(c, from, to); !slices.EqualFunc(got, want, slices.Equal) {
		t.Errorf("RoutesBetween(%v, %d, %d) is %v, want %v", c, from, to, got, want)
	}
}

func checkBest(t *testing.T, c impl.Chart, from int, to int, want []int, wantOk bool) {
	t.Helper()
	if got, ok := impl.BestRoute(c, from, to); !slices.Equal(got, want) || ok != wantOk {
		t.Errorf("BestRoute(%v, %d, %d) is %v, %v, want %v, %v", c, from, to, got, ok, want, wantOk)
	}
}

func TestRoutesBetween(t *testing.T) {
	c := fullChart()
	checkBetween(t, c, 0, 0, [][]int{{}})
	checkBetween(t, c, 7, 7, [][]int{{}})
	checkBetween(t, c, 7, 6, [][]int{{8}})
	checkBetween(t, c, 7, 2, [][]int{{8, 7}})
	checkBetween(t, c, 0, 1, [][]int{{0}, {5, 4, 3, 2, 1}, {5, 4, 9}, {6, 2, 1}, {6, 3, 9}})
	checkBetween(t, c, 1, 0, [][]int{{0}, {1, 2, 3, 4, 5}, {1, 2, 6}, {9, 3, 6}, {9, 4, 5}})
	checkBetween(t, c, 5, 7, [][]int{{4, 3, 2, 7, 8}, {4, 3, 6, 0, 1, 7, 8}, {4, 9, 0, 6, 2, 7, 8}, {4, 9, 1, 7, 8}, {5, 0, 1, 7, 8}, {5, 0, 9, 3, 2, 7, 8}, {5, 6, 2, 7, 8}, {5, 6, 3, 9, 1, 7, 8}})
}

func TestRoutesBetweenPointsThatNoneJoins(t *testing.T) {
	c := chartOf(somePoints(6), segment(0, 1, 9), segment(1, 2, 9), segment(2, 0, 9), segment(3, 4, 9))
	for _, ends := range [][2]int{{0, 3}, {3, 0}, {2, 4}, {5, 0}, {0, 5}, {4, 5}} {
		checkBetween(t, c, ends[0], ends[1], nil)
		checkBest(t, c, ends[0], ends[1], nil, false)
	}
	checkBetween(t, c, 5, 5, [][]int{{}})
	checkBetween(t, c, 3, 4, [][]int{{3}})
	checkBetween(t, c, 0, 2, [][]int{{0, 1}, {2}})
	checkBetween(t, chartOf(somePoints(2)), 0, 1, nil)
	checkBetween(t, chartOf(somePoints(1)), 0, 0, [][]int{{}})
	checkBest(t, chartOf(somePoints(1)), 0, 0, nil, true)
}

func TestRoutesBetweenManyWays(t *testing.T) {
	c := completeChart()
	for from := range 5 {
		for to := range 5 {
			if routes := impl.RoutesBetween(c, from, to); from != to && len(routes) != 16 {
				t.Errorf("%d routes from %d to %d: %v", len(routes), from, to, routes)
			}
		}
	}
}

func TestRoutesBetweenEveryTwoPoints(t *testing.T) {
	for _, c := range goodCharts() {
		for _, from := range numbersAround(len(c.Points)) {
			for _, to := range numbersAround(len(c.Points)) {
				routes := slowRoutes(c, from, to)
				checkBetween(t, c, from, to, routes)
				checkBest(t, c, from, to, quickestOf(c, routes), len(routes) > 0)
			}
		}
	}
}

// Every set of segments between four points is tried, in several orders and with minutes that are often the same.
func TestRoutesBetweenInEveryChartOfFourPoints(t *testing.T) {
	pairs := pairsOf(4)
	for set := range 64 {
		var chosen []impl.Segment
		for i, s := range pairs {
			if set>>i&1 == 1 {
				s.Minutes = 10 * (1 + (set+i)%3)
				chosen = append(chosen, s)
			}
		}
		for turn := range len(chosen) {
			c := chartOf(somePoints(4), slices.Concat(chosen[turn:], chosen[:turn])...)
			if turn%2 == 1 {
				slices.Reverse(c.Segments)
			}
			for from := range 4 {
				for to := range 4 {
					routes := slowRoutes(c, from, to)
					checkBetween(t, c, from, to, routes)
					checkBest(t, c, from, to, quickestOf(c, routes), len(routes) > 0)
				}
			}
		}
	}
}

// A list is among the routes exactly if RouteOk accepts it and it leads to the point.
func TestRoutesBetweenAreTheRoutes(t *testing.T) {
	c := chartOf(somePoints(4), segment(2, 3, 9), segment(0, 1, 9), segment(3, 1, 9), segment(1, 2, 9), segment(0, 2, 9))
	for from := range 4 {
		found := make([][][]int, 4)
		for n := range 5 {
			for _, route := range beginsOf([]int{0, 1, 2, 3, 4}, n) {
				if impl.RouteOk(c, from, route) {
					points := impl.RoutePoints(c, from, route)
					to := points[len(points)-1]
					found[to] = append(found[to], route)
				}
			}
		}
		for to, routes := range found {
			slices.SortFunc(routes, slices.Compare)
			checkBetween(t, c, from, to, routes)
		}
	}
}

func TestBestRoute(t *testing.T) {
	c := fullChart()
	checkBest(t, c, 3, 3, nil, true)
	checkBest(t, c, 0, 1, []int{0}, true)
	checkBest(t, c, 0, 2, []int{0, 9, 3, 2}, true)
	checkBest(t, c, 2, 0, []int{2, 3, 9, 0}, true)
	checkBest(t, c, 1, 2, []int{9, 3, 2}, true)
	checkBest(t, c, 5, 3, []int{4, 3}, true)
	checkBest(t, c, 7, 5, []int{8, 7, 2, 3, 4}, true)
}

func TestBestRouteOfSeveral(t *testing.T) {
	around := chartOf(somePoints(3), segment(0, 2, 50), segment(0, 1, 30), segment(1, 2, 20))
	checkBest(t, around, 0, 2, []int{0}, true)
	checkBest(t, around, 2, 0, []int{0}, true)
	around.Segments[0].Minutes = 51
	checkBest(t, around, 0, 2, []int{1, 2}, true)
	late := chartOf(somePoints(3), segment(0, 1, 30), segment(1, 2, 20), segment(0, 2, 50))
	checkBest(t, late, 0, 2, []int{0, 1}, true)
	checkBest(t, late, 2, 0, []int{1, 0}, true)
	late.Segments[2].Minutes = 49
	checkBest(t, late, 0, 2, []int{2}, true)
	square := chartOf(somePoints(4), segment(2, 3, 10), segment(0, 2, 10), segment(0, 1, 10), segment(1, 3, 10))
	checkBest(t, square, 0, 3, []int{1, 0}, true)
	checkBest(t, square, 3, 0, []int{0, 1}, true)
	checkBest(t, square, 1, 2, []int{2, 1}, true)
	checkBest(t, square, 2, 1, []int{0, 3}, true)
}

func TestRoutesBetweenRefuse(t *testing.T) {
	for _, c := range badCharts() {
		for _, ends := range [][2]int{{0, 0}, {0, 1}, {1, 0}, {6, 7}, {-1, 0}, {math.MaxInt, math.MinInt}} {
			checkBetween(t, c, ends[0], ends[1], nil)
			checkBest(t, c, ends[0], ends[1], nil, false)
		}
	}
	for _, wrong := range []int{math.MinInt, -1, 8, 9, math.MaxInt} {
		for _, point := range []int{0, 7, wrong} {
			checkBetween(t, fullChart(), wrong, point, nil)
			checkBetween(t, fullChart(), point, wrong, nil)
			checkBest(t, fullChart(), wrong, point, nil, false)
			checkBest(t, fullChart(), point, wrong, nil, false)
		}
	}
}
