package tests

import (
	"math"
	"testing"

	"loop.example/g00831/impl"
)

func (v trip) first(ready int) ([]int, bool) {
	return impl.FirstSail(v.f, v.c, v.s, v.from, v.route, ready)
}

func checkFirst(t *testing.T, v trip, ready int, want ...int) {
	t.Helper()
	got, ok := v.first(ready)
	checkTrip(t, "FirstSail", v, ready, got, ok, want)
}

func TestFirstSailOverOneSegment(t *testing.T) {
	for _, v := range []trip{{gates(), lane("..", stretch(800, 30)), deep(800), 0, []int{0}}, {gates(), lane("ww", stretch(776, 15)), slowly(deep(800)), 1, []int{0}}} {
		for _, w := range [][2]int{{math.MinInt, 0}, {math.MinInt + 1, 0}, {-2881, 0}, {-1, 0}, {0, 0}, {1, 1}, {69, 69}, {70, 200}, {199, 200}, {200, 200}, {269, 269}, {270, 400}, {399, 400}, {400, 400}, {2849, 2849}, {2850, 2850}} {
			checkFirst(t, v, w[0], w[1])
		}
		for _, ready := range []int{2851, 2880, 2881, 2882, math.MaxInt - 1, math.MaxInt} {
			checkFirst(t, v, ready)
		}
	}
}

func TestFirstSailWithoutWait(t *testing.T) {
	for _, v := range []trip{gateTrip("..."), gateTrip("w.w"), slowGateTrip("...")} {
		for _, w := range [][2]int{{math.MinInt, 0}, {-1, 0}, {0, 0}, {49, 49}, {50, 180}, {51, 180}, {179, 180}, {180, 180}, {249, 249}, {250, 380}, {379, 380}, {2829, 2829}, {2830, 2830}} {
			checkFirst(t, v, w[0], w[1], w[1]+20)
		}
		for _, ready := range []int{2831, 2860, 2861, 2880, 2881, math.MaxInt} {
			checkFirst(t, v, ready)
		}
	}
}

func TestFirstSailWithWait(t *testing.T) {
	for _, v := range []trip{gateTrip(".w."), slowGateTrip("www")} {
		for _, w := range [][3]int{{math.MinInt, 0, 20}, {-1, 0, 20}, {0, 0, 20}, {49, 49, 69}, {50, 50, 200}, {180, 180, 200}, {181, 181, 201}, {250, 250, 400}, {2830, 2830, 2850}} {
			checkFirst(t, v, w[0], w[1], w[2])
		}
		for _, ready := range []int{2831, 2860, 2861, 2880, 2881, math.MaxInt} {
			checkFirst(t, v, ready)
		}
	}
}

// The first segment has sure starts from 620 to 1150, but the second one none before 725, nor after 1045 until 1445.
func TestFirstSailLeavesTheLeastStartOfAWindow(t *testing.T) {
	v := trip{swell(), lane("...", stretch(970, 30), stretch(800, 30)), deep(800), 0, along(2)}
	checkWindows(t, impl.SureStarts(v.f, v.c, 0, v.s), windowsOf(0, 430, 620, 1150, 1340, 1870, 2060, 2590, 2780, 2850), "SureStarts")
	checkWindows(t, impl.SureStarts(v.f, v.c, 1, v.s), windowsOf(5, 325, 725, 1045, 1445, 1765, 2165, 2485), "SureStarts")
	for _, w := range [][2]int{{0, 0}, {295, 295}, {296, 695}, {431, 695}, {620, 695}, {695, 695}, {1015, 1015}, {1016, 1415}, {1736, 2135}, {2455, 2455}} {
		checkFirst(t, v, w[0], w[1], w[1]+30)
	}
	checkSail(t, v, 620)
	checkFirst(t, v, 2456)
	v.c.Points[1].Wait = true
	checkFirst(t, v, 296, 296, 725)
	checkFirst(t, v, 431, 620, 725)
	checkFirst(t, v, 2456)
}

// After the first segment, which takes 240 minutes, it is too late for the second one on the same tide.
func TestFirstSailWhereNoneSucceeds(t *testing.T) {
	v := trip{swell(), lane("...", stretch(800, 240), stretch(640, 30)), deep(800), 0, along(2)}
	if len(impl.SureStarts(v.f, v.c, 0, v.s)) != 4 || len(impl.SureStarts(v.f, v.c, 1, v.s)) != 4 {
		t.Errorf("the segments do not both have starts on each tide")
	}
	for _, ready := range append(minutesToTry(), 5, 725, 2165) {
		checkFirst(t, v, ready)
	}
	v.c.Points[1].Wait = true
	second := impl.SureStarts(v.f, v.c, 1, v.s)
	for i, w := range impl.SureStarts(v.f, v.c, 0, v.s)[:3] {
		checkFirst(t, v, w.From, w.From, second[i+1].From)
		checkFirst(t, v, w.To, w.To, second[i+1].From)
	}
	for _, ready := range []int{2165, 2880, math.MaxInt} {
		checkFirst(t, v, ready)
	}
	v.c.Segments[1].Depth = 500
	for _, ready := range minutesToTry() {
		checkFirst(t, v, ready)
	}
}

// Only the very last start in time succeeds: the gate is open from 2850 on.
func TestFirstSailAtTheLastMinutes(t *testing.T) {
	f := forecastOf(impl.Tide{Mean: 90}, surge(0, -1, 0), surge(2850, 0, 0))
	v := trip{f, lane("....", stretch(3000, 240), stretch(3000, 1), stretch(800, 30)), deep(800), 0, along(3)}
	for _, ready := range []int{math.MinInt, -1, 0, 1, 2608, 2609} {
		checkFirst(t, v, ready, 2609, 2849, 2850)
	}
	for _, ready := range []int{2610, 2640, 2880, 2881, math.MaxInt} {
		checkFirst(t, v, ready)
	}
	// A ship that may wait before the second segment begins it at once all the same, and then comes to the third one too early.
	v.c.Points[1].Wait = true
	checkFirst(t, v, 0, 2609, 2849, 2850)
	checkSail(t, v, 2608)
}

func TestFirstSailAtTheLastMinutesWithWait(t *testing.T) {
	f := forecastOf(impl.Tide{Mean: 90}, surge(0, -1, 0), surge(2850, 0, 0))
	v := trip{f, lane("..w.", stretch(3000, 240), stretch(3000, 1), stretch(800, 30)), deep(800), 0, along(3)}
	for _, ready := range []int{0, 1, 2608, 2609} {
		checkFirst(t, v, ready, ready, ready+240, 2850)
	}
	checkFirst(t, v, -1, 0, 240, 2850)
	checkFirst(t, v, 2610)
}

// firstOf gives the first of the results from the minute on.
func firstOf(results [][]int, ready int) []int {
	for _, starts := range results[min(max(ready, 0), len(results)):] {
		if len(starts) > 0 {
			return starts
		}
	}
	return nil
}

// SailRoute is asked at every minute for what the slow search gives, and FirstSail for the first of these results from every minute on.
func TestSailsAtEveryMinute(t *testing.T) {
	for _, v := range manyTrips() {
		sure := sureOfEverySegment(v)
		var results [][]int
		for start := range 2881 {
			results = append(results, slowSail(v, sure, start))
			checkSail(t, v, start, results[start]...)
		}
		for ready := -3; ready <= 2884; ready++ {
			checkFirst(t, v, ready, firstOf(results, ready)...)
		}
		for _, minute := range beyondTime() {
			checkSail(t, v, minute)
			checkFirst(t, v, minute, firstOf(results, minute)...)
		}
	}
}

func TestFirstSailOnEveryRoute(t *testing.T) {
	f, c := unsettled(), shelves()
	for _, s := range []impl.Ship{deep(819), slowly(deep(819))} {
		sure := sureOfEverySegment(trip{f: f, c: c, s: s})
		for _, route := range impl.RoutesBetween(c, 3, 1) {
			v := trip{f, c, s, 3, route}
			var results [][]int
			for start := range 2881 {
				results = append(results, slowSail(v, sure, start))
			}
			for _, ready := range startsToTry(sure[route[0]]) {
				checkFirst(t, v, ready, firstOf(results, ready)...)
			}
		}
	}
}
