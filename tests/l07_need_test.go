package tests

import (
	"math"
	"testing"

	"loop.example/g00831/impl"
)

// slowNeed adds up the water that a valid ship needs.
func slowNeed(s impl.Ship) int {
	if s.Slow {
		return s.Draught + wholeTimes(s.Draught, 50) + 50
	}
	return s.Draught + wholeTimes(s.Draught, 20) + 50
}

// deep gives a ship with this draught.
func deep(draught int) impl.Ship { return shipOf("deep", 150, draught, 1, 2) }

// channel gives a chart with one segment.
func channel(depth int, minutes int) impl.Chart {
	return chartOf(somePoints(2), impl.Segment{A: 0, B: 1, Depth: depth, Minutes: minutes})
}

func checkNeed(t *testing.T, s impl.Ship, want int) {
	t.Helper()
	if got := impl.NeedOf(s); got != want {
		t.Errorf("NeedOf(%+v) is %d, want %d", s, got, want)
	}
}

func checkLevelFor(t *testing.T, c impl.Chart, number int, s impl.Ship, want int) {
	t.Helper()
	if got := impl.LevelFor(c, number, s); got != want {
		t.Errorf("LevelFor(%v, %d, %+v) is %d, want %d", c, number, s, got, want)
	}
}

func checkAfloat(t *testing.T, c impl.Chart, number int, s impl.Ship, level int, want bool) {
	t.Helper()
	if got := impl.IsAfloat(c, number, s, level); got != want {
		t.Errorf("IsAfloat(%v, %d, %+v, %d) is %v", c, number, s, level, got)
	}
}

func TestMargin(t *testing.T) {
	if impl.Margin != 50 {
		t.Errorf("Margin is %d", impl.Margin)
	}
}

func TestNeedOf(t *testing.T) {
	for _, w := range [][3]int{{100, 155, 152}, {101, 156, 153}, {119, 174, 171}, {120, 176, 172}, {149, 206, 201}, {150, 207, 203}, {600, 680, 662}, {800, 890, 866}, {819, 909, 885}, {820, 911, 886}, {1999, 2148, 2088}, {2000, 2150, 2090}} {
		checkNeed(t, deep(w[0]), w[1])
		checkNeed(t, slowly(deep(w[0])), w[2])
	}
}

// The need depends on nothing of a ship but its draught and whether it is slow.
func TestNeedOfEveryDraught(t *testing.T) {
	for draught := 100; draught <= 2000; draught++ {
		s := shipOf("s", 10+draught%391, draught, draught%4, draught%5)
		checkNeed(t, s, slowNeed(s))
		checkNeed(t, slowly(s), slowNeed(slowly(s)))
	}
}

func TestNeedOfRefuses(t *testing.T) {
	for _, s := range badShips() {
		checkNeed(t, s, 0)
	}
}

func TestLevelFor(t *testing.T) {
	for _, w := range [][3]int{{0, 890, 866}, {1, 889, 865}, {800, 90, 66}, {865, 25, 1}, {866, 24, 0}, {867, 23, -1}, {889, 1, -23}, {890, 0, -24}, {891, -1, -25}, {900, -10, -34}, {3000, -2110, -2134}} {
		for _, minutes := range []int{1, 30, 240} {
			checkLevelFor(t, channel(w[0], minutes), 0, deep(800), w[1])
			checkLevelFor(t, channel(w[0], minutes), 0, slowly(deep(800)), w[2])
		}
	}
	checkLevelFor(t, channel(0, 30), 0, deep(2000), 2150)
	checkLevelFor(t, channel(3000, 30), 0, slowly(deep(100)), -2848)
	checkLevelFor(t, channel(800, 30), 1, deep(800), 0)
	checkLevelFor(t, channel(800, 30), -1, deep(800), 0)
	checkLevelFor(t, impl.Chart{}, 0, deep(800), 0)
}

func TestLevelForEverySegment(t *testing.T) {
	for _, c := range goodCharts() {
		for _, s := range goodShips() {
			for _, number := range numbersAround(len(c.Segments)) {
				want := 0
				if within(number, 0, len(c.Segments)-1) {
					want = slowNeed(s) - c.Segments[number].Depth
				}
				checkLevelFor(t, c, number, s, want)
			}
		}
	}
}

func TestLevelForRefuses(t *testing.T) {
	for _, c := range badCharts() {
		for _, number := range numbersAround(len(c.Segments)) {
			checkLevelFor(t, c, number, deep(800), 0)
			checkLevelFor(t, c, number, slowly(deep(800)), 0)
		}
	}
	for _, s := range badShips() {
		for _, c := range goodCharts() {
			for _, number := range numbersAround(len(c.Segments)) {
				checkLevelFor(t, c, number, s, 0)
			}
		}
	}
}

// A ship is afloat from the level on, be it below 0, 0 or above it.
func TestIsAfloat(t *testing.T) {
	for _, depth := range []int{0, 800, 865, 866, 867, 889, 890, 891, 3000} {
		for _, s := range []impl.Ship{deep(800), slowly(deep(800)), deep(819), deep(100), slowly(deep(2000))} {
			c, level := channel(depth, 30), slowNeed(s)-depth
			for _, more := range []int{0, 1, 2, 100, 5000} {
				checkAfloat(t, c, 0, s, level+more, true)
				checkAfloat(t, c, 0, s, level-1-more, false)
			}
			checkAfloat(t, c, 0, s, math.MaxInt, true)
			checkAfloat(t, c, 0, s, math.MinInt, false)
		}
	}
}

func TestIsAfloatOnEverySegment(t *testing.T) {
	for _, c := range goodCharts() {
		for _, s := range goodShips() {
			for number, on := range c.Segments {
				level := slowNeed(s) - on.Depth
				checkAfloat(t, c, number, s, level, true)
				checkAfloat(t, c, number, s, level-1, false)
			}
			for _, number := range []int{math.MinInt, -1, len(c.Segments), len(c.Segments) + 1, math.MaxInt} {
				checkNotAfloat(t, c, number, s)
			}
		}
	}
}

// checkNotAfloat wants no level to be enough, the LevelFor of 0 included.
func checkNotAfloat(t *testing.T, c impl.Chart, number int, s impl.Ship) {
	t.Helper()
	for _, level := range []int{math.MinInt, -1, 0, 1, 5000, math.MaxInt} {
		checkAfloat(t, c, number, s, level, false)
	}
}

func TestIsAfloatRefuses(t *testing.T) {
	for _, c := range badCharts() {
		for number := range len(c.Segments) + 1 {
			checkNotAfloat(t, c, number, deep(800))
			checkNotAfloat(t, c, number, slowly(deep(800)))
		}
	}
	for _, s := range badShips() {
		for _, c := range goodCharts() {
			for number := range len(c.Segments) + 1 {
				checkNotAfloat(t, c, number, s)
			}
		}
	}
}
