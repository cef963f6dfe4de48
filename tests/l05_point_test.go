package tests

import (
	"math"
	"testing"

	"loop.example/g00831/impl"
)

// numbersAround gives the numbers up to count, some beyond both ends, and the least and the greatest int.
func numbersAround(count int) []int {
	list := []int{math.MinInt, math.MinInt + 1, math.MaxInt - 1, math.MaxInt}
	for i := -3; i <= count+3; i++ {
		list = append(list, i)
	}
	return list
}

func checkNamed(t *testing.T, c impl.Chart, name string, want int) {
	t.Helper()
	if got := impl.PointNamed(c, name); got != want {
		t.Errorf("PointNamed(%v, %q) is %d, want %d", c.Points, name, got, want)
	}
}

func TestPointNamed(t *testing.T) {
	c := chartOf(pointsOf("sea", "bar", "quay", "pond"), segment(0, 1, 30))
	for i, name := range []string{"sea", "bar", "quay", "pond"} {
		checkNamed(t, c, name, i)
	}
	for _, name := range append(badNames(), "se", "seas", "Sea", "a", "ba", "quayquay") {
		checkNamed(t, c, name, -1)
		checkNamed(t, impl.Chart{}, name, -1)
	}
	for _, good := range goodCharts() {
		for i, p := range good.Points {
			checkNamed(t, good, p.Name, i)
		}
	}
}

func TestPointNamedOfTheFirst(t *testing.T) {
	checkNamed(t, chartOf(pointsOf("a", "a")), "a", 0)
	checkNamed(t, chartOf(pointsOf("b", "a", "c", "a", "a")), "a", 1)
	checkNamed(t, chartOf(pointsOf("b", "c", "c", "b")), "b", 0)
	checkNamed(t, chartOf(pointsOf("b", "c", "c", "b")), "c", 1)
	for i := range 8 {
		for k := range i {
			c := fullChart()
			name := c.Points[k].Name
			c.Points[i].Name = name
			checkNamed(t, c, name, k)
		}
	}
}

// A chart need not be valid, and a name need not satisfy IsName.
func TestPointNamedOfBadCharts(t *testing.T) {
	for _, name := range badNames() {
		checkNamed(t, chartOf(pointsOf("a", name, "b", name)), name, 1)
	}
	checkNamed(t, chartOf(make([]impl.Point, 9)), "", 0)
	many := chartOf(somePoints(300))
	checkNamed(t, many, "p8", 8)
	checkNamed(t, many, "p299", 299)
	checkNamed(t, many, "p300", -1)
	for _, c := range badCharts() {
		for _, p := range append(c.Points, pointsOf("q", "", "A")...) {
			want := -1
			for i := len(c.Points) - 1; i >= 0; i-- {
				if c.Points[i].Name == p.Name {
					want = i
				}
			}
			checkNamed(t, c, p.Name, want)
		}
	}
}

func checkSegmentOf(t *testing.T, c impl.Chart, a int, b int, want int) {
	t.Helper()
	if got := impl.SegmentOf(c, a, b); got != want {
		t.Errorf("SegmentOf(%v, %d, %d) is %d, want %d", c, a, b, got, want)
	}
}

func checkOtherEnd(t *testing.T, c impl.Chart, segment int, point int, want int) {
	t.Helper()
	if got := impl.OtherEnd(c, segment, point); got != want {
		t.Errorf("OtherEnd(%v, %d, %d) is %d, want %d", c, segment, point, got, want)
	}
}

func TestSegmentOf(t *testing.T) {
	c := fullChart()
	for _, w := range [][3]int{{0, 1, 0}, {1, 0, 0}, {1, 2, 1}, {2, 1, 1}, {5, 0, 5}, {0, 5, 5}, {6, 7, 8}, {7, 6, 8}, {1, 4, 9}, {4, 1, 9}, {0, 0, -1}, {7, 7, -1}, {0, 2, -1}, {5, 7, -1}, {0, 8, -1}, {8, 0, -1}, {-1, 0, -1}, {0, -1, -1}, {-1, -1, -1}} {
		checkSegmentOf(t, c, w[0], w[1], w[2])
	}
}

func TestSegmentOfEveryTwoPoints(t *testing.T) {
	for _, c := range goodCharts() {
		for _, a := range numbersAround(8) {
			for _, b := range numbersAround(8) {
				want := -1
				for i, s := range c.Segments {
					if [2]int{a, b} == [2]int{s.A, s.B} || [2]int{b, a} == [2]int{s.A, s.B} {
						want = i
					}
				}
				checkSegmentOf(t, c, a, b, want)
			}
		}
	}
}

func TestOtherEnd(t *testing.T) {
	c := fullChart()
	for _, w := range [][3]int{{0, 0, 1}, {0, 1, 0}, {1, 1, 2}, {1, 2, 1}, {5, 5, 0}, {5, 0, 5}, {8, 7, 6}, {8, 6, 7}, {9, 1, 4}, {9, 4, 1}, {0, 2, -1}, {9, 0, -1}, {9, 8, -1}, {9, -1, -1}, {10, 1, -1}, {-1, 0, -1}, {-1, -1, -1}} {
		checkOtherEnd(t, c, w[0], w[1], w[2])
	}
}

func TestOtherEndOfEveryPoint(t *testing.T) {
	for _, c := range goodCharts() {
		for _, number := range numbersAround(10) {
			for _, point := range numbersAround(8) {
				want := -1
				if number >= 0 && number < len(c.Segments) {
					ends := map[int]int{c.Segments[number].A: c.Segments[number].B, c.Segments[number].B: c.Segments[number].A}
					if end, ok := ends[point]; ok {
						want = end
					}
				}
				checkOtherEnd(t, c, number, point, want)
			}
		}
	}
}

func TestSegmentsOfBadCharts(t *testing.T) {
	for _, c := range badCharts() {
		for i, s := range c.Segments {
			checkSegmentOf(t, c, s.A, s.B, -1)
			checkSegmentOf(t, c, s.B, s.A, -1)
			checkOtherEnd(t, c, i, s.A, -1)
			checkOtherEnd(t, c, i, s.B, -1)
		}
		checkSegmentOf(t, c, 0, 1, -1)
		checkSegmentOf(t, c, 0, 0, -1)
		checkOtherEnd(t, c, 0, 0, -1)
		checkOtherEnd(t, c, -1, -1, -1)
		checkOtherEnd(t, c, math.MaxInt, math.MinInt, -1)
	}
}
