package tests

import (
	"math"
	"slices"
	"testing"

	"loop.example/g00831/impl"
)

func pointsOf(names ...string) []impl.Point {
	var list []impl.Point
	for _, name := range names {
		list = append(list, impl.Point{Name: name})
	}
	return list
}

// somePoints gives n points with different names, at every other one of which ships may wait.
func somePoints(n int) []impl.Point {
	var list []impl.Point
	for i := range n {
		list = append(list, impl.Point{Name: "p" + impl.FormatInt(i), Wait: i%2 == 1})
	}
	return list
}

func segment(a int, b int, minutes int) impl.Segment {
	return impl.Segment{A: a, B: b, Depth: 800, Minutes: minutes}
}

// pairsOf gives a segment between every two of n points, in alternating directions and with different minutes.
func pairsOf(n int) []impl.Segment {
	var list []impl.Segment
	for b := range n {
		for a := range b {
			s := impl.Segment{A: a, B: b, Depth: 100 * len(list), Minutes: 7 + 11*len(list)%50, Meet: b == 3}
			if len(list)%2 == 1 {
				s.A, s.B = s.B, s.A
			}
			list = append(list, s)
		}
	}
	return list
}

func chartOf(points []impl.Point, segments ...impl.Segment) impl.Chart {
	return impl.Chart{Points: points, Segments: segments}
}

// fullChart has as many points and segments as there may be: a ring of six points, one way across it and a tail.
func fullChart() impl.Chart {
	return chartOf(somePoints(8),
		segment(0, 1, 1), segment(2, 1, 240), segment(2, 3, 20), segment(4, 3, 20), segment(4, 5, 30), segment(5, 0, 31), segment(3, 0, 60), segment(6, 2, 5), segment(7, 6, 9), segment(1, 4, 17))
}

func completeChart() impl.Chart { return chartOf(somePoints(5), pairsOf(5)...) }

func goodCharts() []impl.Chart {
	return []impl.Chart{
		{}, chartOf([]impl.Point{}), chartOf(somePoints(1)), chartOf(somePoints(2)), chartOf(somePoints(7)), chartOf(somePoints(8)),
		chartOf(pointsOf("a", "z", "a0", "z9", "aa", "abcdefgh", "z9999999", "zzzzzzzz")),
		chartOf(somePoints(2), segment(0, 1, 30)), chartOf(somePoints(2), segment(1, 0, 30)),
		chartOf(somePoints(2), impl.Segment{A: 0, B: 1, Depth: 0, Minutes: 1}), chartOf(somePoints(2), impl.Segment{A: 0, B: 1, Depth: 3000, Minutes: 240, Meet: true}),
		chartOf([]impl.Point{{Name: "sea", Wait: true}, {Name: "bar"}, {Name: "quay", Wait: true}}, segment(0, 1, 30), segment(1, 2, 20)),
		chartOf(somePoints(8), segment(0, 7, 1), segment(7, 6, 2), segment(1, 6, 240)),
		chartOf(somePoints(8), segment(0, 1, 30), segment(2, 3, 30), segment(4, 5, 30), segment(6, 7, 30)),
		chartOf(somePoints(4), pairsOf(4)...), chartOf(somePoints(8), pairsOf(5)...), completeChart(), fullChart(),
	}
}

func badNames() []string {
	return []string{"", "A", "0", "0a", " a", "a ", "a-b", "aB", "a_", "abcdefghi", "aaaaaaaaaaaaaaaaaaaa", "\xc3\xa9", "a\xc3", "\xff", "a\x00", "a\n", "`", "{", "a/", "a:"}
}

func badSegments(points int) []impl.Segment {
	list := []impl.Segment{{}, segment(0, 0, 30), segment(points-1, points-1, 30), segment(-1, -1, 30), segment(points, points, 30), segment(points+1, points, 30)}
	for _, end := range []int{math.MinInt, -2, -1, points, points + 1, math.MaxInt} {
		list = append(list, segment(end, 0, 30), segment(0, end, 30), segment(points-1, end, 30), segment(end, points-1, 30))
	}
	for _, depth := range []int{math.MinInt, -1, 3001, math.MaxInt} {
		list = append(list, impl.Segment{A: 0, B: 1, Depth: depth, Minutes: 30}, impl.Segment{A: 1, B: 0, Depth: depth, Minutes: 30})
	}
	for _, minutes := range []int{math.MinInt, -30, -1, 0, 241, math.MaxInt} {
		list = append(list, segment(0, 1, minutes), segment(1, 0, minutes))
	}
	return list
}

func chartsWithBadPoints() []impl.Chart {
	list := []impl.Chart{chartOf(somePoints(9)), chartOf(somePoints(9), segment(0, 1, 30)), chartOf(somePoints(300)), chartOf(pointsOf("a", "a")), chartOf(make([]impl.Point, 8))}
	for i := range 8 {
		for _, name := range badNames() {
			c := fullChart()
			c.Points[i].Name = name
			list = append(list, c)
		}
		for k := range i {
			c := fullChart()
			c.Points[i].Name = c.Points[k].Name
			list = append(list, c)
		}
	}
	return list
}

// chartsWithBadSegments gives charts whose points are valid: a wrong segment at each place, alone and among others, and two segments between the same points.
func chartsWithBadSegments() []impl.Chart {
	list := []impl.Chart{chartOf(nil, segment(0, 1, 30)), chartOf(somePoints(1), segment(0, 0, 30)), chartOf(somePoints(1), segment(0, 1, 30)), chartOf(somePoints(8), pairsOf(6)[:11]...), chartOf(somePoints(8), pairsOf(8)...)}
	for _, wrong := range badSegments(2) {
		list = append(list, chartOf(somePoints(2), wrong))
	}
	for i := range 10 {
		// The segment at the place is the only one between its points, so that a wrong one does not also double another.
		for _, wrong := range badSegments(8) {
			c := chartOf(somePoints(8), pairsOf(6)[1:11]...)
			c.Segments[i] = wrong
			list = append(list, c)
		}
		for k := range 10 {
			same, opposite := fullChart(), fullChart()
			if s := same.Segments[k]; k != i {
				same.Segments[i] = impl.Segment{A: s.A, B: s.B, Depth: 5, Minutes: 6, Meet: true}
				opposite.Segments[i] = impl.Segment{A: s.B, B: s.A, Depth: 5, Minutes: 6, Meet: true}
				list = append(list, same, opposite)
			}
		}
	}
	return list
}

func badCharts() []impl.Chart { return append(chartsWithBadPoints(), chartsWithBadSegments()...) }

func checkChartOk(t *testing.T, c impl.Chart, want bool) {
	t.Helper()
	if got := impl.ChartOk(c); got != want {
		t.Errorf("ChartOk(%v) is %v", c, got)
	}
}

func TestChartConstants(t *testing.T) {
	if impl.MaxPoints != 8 || impl.MaxSegments != 10 {
		t.Errorf("MaxPoints %d, MaxSegments %d", impl.MaxPoints, impl.MaxSegments)
	}
}

func TestChartOk(t *testing.T) {
	for _, c := range goodCharts() {
		checkChartOk(t, c, true)
	}
	for _, c := range badCharts() {
		checkChartOk(t, c, false)
	}
}

func TestChartOkOfEveryNumberOfPointsAndSegments(t *testing.T) {
	pairs := pairsOf(8)
	for points := range 14 {
		for segments := range len(pairs) + 1 {
			// The pairs come in the order of their greater end, so the points that exist have the first ones.
			exist := segments <= points*(points-1)/2
			checkChartOk(t, chartOf(somePoints(points), pairs[:segments]...), exist && points <= 8 && segments <= 10)
		}
	}
}

func TestChartOkOfEveryDepthAndMinutes(t *testing.T) {
	for depth := -5; depth <= 3005; depth++ {
		checkChartOk(t, chartOf(somePoints(2), impl.Segment{A: 1, B: 0, Depth: depth, Minutes: 240}), depth >= 0 && depth <= 3000)
	}
	for minutes := -5; minutes <= 300; minutes++ {
		checkChartOk(t, chartOf(somePoints(2), impl.Segment{A: 0, B: 1, Minutes: minutes}), minutes >= 1 && minutes <= 240)
	}
}

func TestChartOkOfEveryTwoSegments(t *testing.T) {
	for _, e := range beginsOf([]int{math.MinInt, -1, 0, 1, 2, 3, math.MaxInt}, 4) {
		want := min(e[0], e[1], e[2], e[3]) >= 0 && max(e[0], e[1], e[2], e[3]) <= 2 && e[0] != e[1] && e[2] != e[3]
		first, second := []int{min(e[0], e[1]), max(e[0], e[1])}, []int{min(e[2], e[3]), max(e[2], e[3])}
		checkChartOk(t, chartOf(somePoints(3), segment(e[0], e[1], 9), segment(e[2], e[3], 8)), want && !slices.Equal(first, second))
	}
}

func TestChartOkOfEveryTwoNames(t *testing.T) {
	names := append(badNames(), "a", "b", "a0", "abcdefgh", "abcdefgg")
	for _, a := range names {
		for _, b := range names {
			checkChartOk(t, chartOf(pointsOf(a, b)), impl.IsName(a) && impl.IsName(b) && a != b)
		}
	}
}
