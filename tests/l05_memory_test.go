package tests

import (
	"slices"
	"testing"

	"loop.example/g00831/impl"
)

// spoilInts changes a list and the room behind it.
func spoilInts(list []int) {
	list = list[:cap(list)]
	for i := range list {
		list[i] = -77
	}
}

func copyOfInts(lists [][]int) [][]int {
	var copies [][]int
	for _, list := range lists {
		copies = append(copies, slices.Clone(list))
	}
	return copies
}

func copyOfChart(c impl.Chart) impl.Chart {
	return impl.Chart{Points: slices.Clone(c.Points), Segments: slices.Clone(c.Segments)}
}

func sameCharts(a impl.Chart, b impl.Chart) bool {
	return slices.Equal(a.Points, b.Points) && slices.Equal(a.Segments, b.Segments)
}

// chartResults calls every function whose result has lists, and gives each of the lists.
func chartResults(c impl.Chart, from int, to int, route []int) [][]int {
	best, _ := impl.BestRoute(c, from, to)
	return append(impl.RoutesBetween(c, from, to), best, impl.RoutePoints(c, from, route), impl.RoutePoints(c, from, nil))
}

func checkKeptInts(t *testing.T, got [][]int, want [][]int, what string) {
	t.Helper()
	if !slices.EqualFunc(got, want, slices.Equal) {
		t.Errorf("%s: %v, want %v", what, got, want)
	}
}

func TestChartResultsAreNew(t *testing.T) {
	for _, good := range []impl.Chart{fullChart(), completeChart(), chartOf(somePoints(8), pairsOf(5)...)} {
		for to := range 5 {
			c := copyOfChart(good)
			route := impl.RoutesBetween(c, 0, to)[0]
			kept := slices.Clone(route)
			first := chartResults(c, 0, to, route)
			before := copyOfInts(first)
			for _, list := range chartResults(c, 0, to, route) {
				spoilInts(list)
			}
			checkKeptInts(t, append(first, route), append(before, kept), "after a change of later results")
			for i, list := range first {
				spoilInts(list)
				checkKeptInts(t, append(first[i+1:], route), append(before[i+1:], kept), "after a change of another result")
			}
			if !sameCharts(c, good) {
				t.Errorf("after a change of the results, the chart is %v, not %v", c, good)
			}
		}
	}
}

func TestChartResultsOutliveTheirArguments(t *testing.T) {
	for to := range 8 {
		c := fullChart()
		route := slices.Clone(impl.RoutesBetween(c, 0, to)[0])
		first := chartResults(c, 0, to, route)
		before := copyOfInts(first)
		spoilInts(route)
		clear(c.Points)
		clear(c.Segments)
		checkKeptInts(t, first, before, "after a change of the arguments")
	}
}

// chartWithRoom gives a chart with something of its own behind both lists, and both lists with what is behind them.
func chartWithRoom(c impl.Chart) (impl.Chart, impl.Chart) {
	whole := impl.Chart{Points: append(slices.Clone(c.Points), pointsOf("x", "", "x")...), Segments: append(slices.Clone(c.Segments), segment(-1, 99, 0), segment(0, 1, 30))}
	return impl.Chart{Points: whole.Points[:len(c.Points)], Segments: whole.Segments[:len(c.Segments)]}, whole
}

func TestChartArgumentsAreUnchanged(t *testing.T) {
	for _, good := range append(goodCharts(), badCharts()...) {
		c, whole := chartWithRoom(good)
		_, before := chartWithRoom(good)
		for _, list := range [][]int{nil, {0}, {0, 1, 2}, {5, 4}, {0, 0}, {-1, 7}} {
			lists := append(slices.Clone(list), 3, 2, 1)
			kept := slices.Clone(lists)
			route := lists[:len(list)]
			impl.ChartOk(c)
			impl.PointNamed(c, "p1")
			impl.SegmentOf(c, 0, 1)
			impl.OtherEnd(c, 0, 1)
			impl.RouteOk(c, 0, route)
			impl.RouteMinutes(c, route)
			chartResults(c, 0, 2, route)
			if !slices.Equal(lists, kept) {
				t.Errorf("the route or the room behind it became %v, from %v", lists, kept)
			}
		}
		if !sameCharts(whole, before) {
			t.Errorf("the chart or the room behind it became %v, from %v", whole, before)
		}
	}
}

// The order in which a map gives its names differs from call to call.
func TestChartResultsStayTheSame(t *testing.T) {
	twice := chartOf(pointsOf("b", "a", "c", "a", "b", "d", "e", "c"))
	names := []string{"a", "b", "c", "d", "e", "f"}
	for range 200 {
		checkChartOk(t, twice, false)
		checkChartOk(t, fullChart(), true)
		for i, want := range []int{1, 0, 2, 5, 6, -1} {
			checkNamed(t, twice, names[i], want)
		}
	}
}
