package tests

import (
	"math"
	"slices"
	"testing"

	"loop.example/g00831/impl"
)

// A trip is what SailRoute and FirstSail take beside a minute.
type trip struct {
	f     impl.Forecast
	c     impl.Chart
	s     impl.Ship
	from  int
	route []int
}

func (v trip) sail(start int) ([]int, bool) {
	return impl.SailRoute(v.f, v.c, v.s, v.from, v.route, start)
}

// checkTrip wants the minutes, or a failure if there are none.
func checkTrip(t *testing.T, what string, v trip, minute int, got []int, ok bool, want []int) {
	t.Helper()
	if !slices.Equal(got, want) || ok != (len(want) > 0) {
		t.Errorf("%s(%v, %v, %+v, %d, %v, %d) is %v, %v, want %v", what, v.f, v.c, v.s, v.from, v.route, minute, got, ok, want)
	}
}

func checkSail(t *testing.T, v trip, start int, want ...int) {
	t.Helper()
	got, ok := v.sail(start)
	checkTrip(t, "SailRoute", v, start, got, ok, want)
}

func stretch(depth int, minutes int) impl.Segment {
	return impl.Segment{Depth: depth, Minutes: minutes}
}

// lane joins its points one after the other, every other segment against the direction of the lane. The letter w stands for a point with Wait.
func lane(waits string, segments ...impl.Segment) impl.Chart {
	c := chartOf(somePoints(len(waits)), slices.Clone(segments)...)
	for i := range c.Points {
		c.Points[i].Wait = waits[i] == 'w'
	}
	for i := range c.Segments {
		c.Segments[i].A, c.Segments[i].B = i+i%2, i+1-i%2
	}
	return c
}

// along gives the route over the first n segments.
func along(n int) []int {
	var route []int
	for i := range n {
		route = append(route, i)
	}
	return route
}

// gates has the level 90, but may have 89 at the minutes from 100 to 199 and from 300 to 399.
func gates() impl.Forecast {
	return forecastOf(impl.Tide{Mean: 90}, surge(0, 0, 0), surge(100, -1, 0), surge(200, 0, 0), surge(300, -1, 0), surge(400, 0, 0))
}

// gateTrip goes over deep water for 20 minutes, then through the gates for 30; the sure starts of these are from 0 to 69, 200 to 269 and 400 to 2850.
func gateTrip(waits string) trip {
	return trip{gates(), lane(waits, stretch(3000, 20), stretch(800, 30)), deep(800), 0, along(2)}
}

// slowGateTrip has the same starts for a slow ship.
func slowGateTrip(waits string) trip {
	return trip{gates(), lane(waits, stretch(3000, 10), stretch(776, 15)), slowly(deep(800)), 0, along(2)}
}

func TestSailRouteOverOneSegment(t *testing.T) {
	for _, waits := range []string{"..", ".w", "w.", "ww"} {
		for _, from := range []int{0, 1} {
			for _, v := range []trip{{gates(), lane(waits, stretch(800, 30)), deep(800), from, []int{0}}, {gates(), lane(waits, stretch(776, 15)), slowly(deep(800)), from, []int{0}}} {
				for _, start := range []int{0, 1, 69, 200, 201, 269, 400, 1000, 2849, 2850} {
					checkSail(t, v, start, start)
				}
				for _, start := range append(beyondTime(), 70, 99, 100, 199, 270, 399, 2851, 2880) {
					checkSail(t, v, start)
				}
			}
		}
	}
}

func TestSailRouteWithoutWait(t *testing.T) {
	for _, waits := range []string{"...", "w..", "..w", "w.w"} {
		for _, v := range []trip{gateTrip(waits), slowGateTrip(waits)} {
			for _, start := range []int{0, 1, 48, 49, 180, 181, 249, 380, 381, 2829, 2830} {
				checkSail(t, v, start, start, start+20)
			}
			for _, start := range append(beyondTime(), 50, 51, 100, 178, 179, 250, 379, 2831, 2860, 2861, 2880) {
				checkSail(t, v, start)
			}
		}
	}
}

func TestSailRouteWithWait(t *testing.T) {
	for _, waits := range []string{".w.", "ww.", ".ww", "www"} {
		for _, v := range []trip{gateTrip(waits), slowGateTrip(waits)} {
			for _, w := range [][2]int{{0, 20}, {49, 69}, {50, 200}, {51, 200}, {179, 200}, {180, 200}, {181, 201}, {249, 269}, {250, 400}, {379, 400}, {380, 400}, {381, 401}, {2830, 2850}} {
				checkSail(t, v, w[0], w[0], w[1])
			}
			for _, start := range append(beyondTime(), 2831, 2860, 2861, 2880) {
				checkSail(t, v, start)
			}
		}
	}
}

// The ship goes through the gates, over deep water for 40 minutes, and through the gates again.
func TestSailRouteOverThreeSegments(t *testing.T) {
	for waits, want := range map[string][][]int{
		"....": {{400, 430, 470}, {2780, 2810, 2850}},
		".w..": {{400, 430, 470}, {2780, 2810, 2850}},
		"w..w": {{400, 430, 470}, {2780, 2810, 2850}},
		"..w.": {{0, 30, 200}, {69, 99, 200}, {200, 230, 400}, {269, 299, 400}, {400, 430, 470}, {2780, 2810, 2850}},
		".ww.": {{0, 30, 200}, {69, 99, 200}, {200, 230, 400}, {269, 299, 400}, {400, 430, 470}, {2780, 2810, 2850}},
	} {
		v := trip{gates(), lane(waits, stretch(800, 30), stretch(3000, 40), stretch(800, 30)), deep(800), 0, along(3)}
		for _, starts := range want {
			checkSail(t, v, starts[0], starts...)
		}
		for _, start := range []int{-1, 70, 199, 270, 399, 2781, 2850, 2851} {
			checkSail(t, v, start)
		}
		if waits[2] == '.' {
			for _, start := range []int{0, 69, 200, 269} {
				checkSail(t, v, start)
			}
		}
	}
}

func TestSailRouteOverAsManySegmentsAsThereMayBe(t *testing.T) {
	v := trip{still(), lane("........", slices.Repeat([]impl.Segment{stretch(3000, 240)}, 7)...), deep(800), 0, along(7)}
	checkSail(t, v, 0, 0, 240, 480, 720, 960, 1200, 1440)
	checkSail(t, v, 1200, 1200, 1440, 1680, 1920, 2160, 2400, 2640)
	checkSail(t, v, 1201)
	v.s = slowly(v.s)
	checkSail(t, v, 0)
	v.route = along(6)
	checkSail(t, v, 0, 0, 480, 960, 1440, 1920, 2400)
	checkSail(t, v, 1)
	v.from, v.route = 6, []int{5, 4, 3, 2, 1, 0}
	checkSail(t, v, 0, 0, 480, 960, 1440, 1920, 2400)
}

// A segment that is never deep enough fails the route at each place, also where the ship could wait for it.
func TestSailRouteOverADrySegment(t *testing.T) {
	for _, waits := range []string{"....", "wwww"} {
		for dry := range 3 {
			v := trip{gates(), lane(waits, stretch(3000, 20), stretch(3000, 30), stretch(3000, 40)), deep(800), 0, along(3)}
			checkSail(t, v, 300, 300, 320, 350)
			v.c.Segments[dry].Depth = 799
			for _, start := range []int{-1, 0, 300, 400, 2880} {
				checkSail(t, v, start)
			}
		}
	}
}

// The point at which the ship waits is that of the route, whatever its number is and wherever the route comes from.
func TestSailRouteFindsThePointsOfTheRoute(t *testing.T) {
	segments := []impl.Segment{{A: 3, B: 1, Depth: 800, Minutes: 30}, {A: 1, B: 2, Depth: 3000, Minutes: 20}, {A: 0, B: 2, Depth: 3000, Minutes: 10}, {A: 0, B: 3, Depth: 3000, Minutes: 50}}
	for at := range 4 {
		v := trip{gates(), chartOf(pointsOf("d", "b", "c", "a"), segments...), deep(800), 2, []int{1, 0}}
		v.c.Points[at].Wait = true
		if at == 1 {
			checkSail(t, v, 50, 50, 200)
		} else {
			checkSail(t, v, 50)
		}
		v.from, v.route = 0, []int{3, 0}
		if at == 3 {
			checkSail(t, v, 20, 20, 200)
		} else {
			checkSail(t, v, 20)
		}
		v.from, v.route = 0, []int{2, 1, 0}
		checkSail(t, v, 39, 39, 49, 69)
		if at == 1 {
			checkSail(t, v, 40, 40, 50, 200)
		} else {
			checkSail(t, v, 40)
		}
	}
}

// slowSail goes along a route minute by minute; sure has the minutes of every segment of the chart.
func slowSail(v trip, sure [][]bool, start int) []int {
	var starts []int
	minute, here := start, v.from
	for i, number := range v.route {
		for within(minute, 0, 2880) && !sure[number][minute] && i > 0 && v.c.Points[here].Wait {
			minute++
		}
		if !within(minute, 0, 2880) || !sure[number][minute] {
			return nil
		}
		starts = append(starts, minute)
		minute += slowMinutes(v.c, number, v.s)
		here = v.c.Segments[number].A + v.c.Segments[number].B - here
	}
	return starts
}

func sureOfEverySegment(v trip) [][]bool {
	var sure [][]bool
	for number := range v.c.Segments {
		sure = append(sure, sureMinutes(v.f, v.c, number, v.s))
	}
	return sure
}

// manyTrips gives routes on which ships pass without a stop, wait, or fail, at different starts.
func manyTrips() []trip {
	narrow := []impl.Segment{stretch(970, 30), stretch(800, 30), stretch(860, 17)}
	spells := forecastOf(fullTide(), surge(0, -20, 20), surge(600, -60, 10), surge(1500, -5, 60), surge(1533, -90, 0), surge(2600, 0, 0))
	list := []trip{gateTrip("..."), gateTrip("www"), slowGateTrip(".w.")}
	for _, waits := range []string{"....", ".ww."} {
		list = append(list, trip{swell(), lane(waits, narrow...), deep(800), 0, along(3)})
	}
	for _, waits := range []string{"w..w", ".w..", "..w."} {
		list = append(list, trip{spells, lane(waits, narrow...), slowly(deep(801)), 3, []int{2, 1, 0}})
	}
	return list
}

func sureOfRoute(v trip) [][]impl.Window {
	var sure [][]impl.Window
	for _, number := range v.route {
		sure = append(sure, impl.SureStarts(v.f, v.c, number, v.s))
	}
	return sure
}

// Every minute of a route is a sure start of its segment, and a ship that starts later does not arrive earlier.
func TestSailedRoutesAreSureAndInOrder(t *testing.T) {
	for _, v := range manyTrips() {
		arrival, sure := 0, sureOfRoute(v)
		for start := 0; start <= 2880; start += 2 {
			starts, ok := v.sail(start)
			if !ok {
				continue
			}
			for i, minute := range starts {
				checkHas(t, sure[i], minute, true)
			}
			later := impl.ArrivalOf(v.c, v.s, v.route, starts)
			if later < arrival {
				t.Errorf("started at %d, the ship arrives at %d, and at %d before", start, later, arrival)
			}
			arrival = later
		}
		if arrival == 0 {
			t.Errorf("no start succeeds on the route %v of %v", v.route, v.c)
		}
	}
}

// The passages of a route are safe: the ship is afloat from the start until it arrives, and it begins none before the one before has ended.
func TestSailedRoutesAreSafe(t *testing.T) {
	for _, v := range manyTrips() {
		for start := 0; start <= 2880; start += 61 {
			starts, _ := v.sail(start)
			list := impl.PassagesOf(v.c, 0, v.s, v.from, v.route, starts)
			checkChain(t, v.c, list, true)
			for _, p := range list {
				checkSafe(t, v.f, v.c, []impl.Ship{v.s}, p, true)
				for minute := p.Start; minute <= p.End; minute++ {
					checkAfloat(t, v.c, p.Segment, v.s, impl.LowAt(v.f, minute), true)
				}
			}
		}
	}
}

// startsToTry gives the minutes at which the starts of a segment begin and end, those beside them, and some others.
func startsToTry(sure []bool) []int {
	starts := []int{-1, 0, 2880, 2881}
	for _, w := range slowWindows(sure) {
		starts = append(starts, w.From-1, w.From, (w.From+w.To)/2, w.To, w.To+1)
	}
	return starts
}

func unsettled() impl.Forecast {
	return forecastOf(fullTide(), surge(0, -20, 20), surge(600, -30, 10), surge(1500, -5, 60), surge(2600, 0, 0))
}

// shelves has segments that are each deeper than the one before.
func shelves() impl.Chart {
	c := completeChart()
	for number := range c.Segments {
		c.Segments[number].Depth = 760 + 33*number
	}
	return c
}

func TestSailRouteOnEveryRoute(t *testing.T) {
	f, c := unsettled(), shelves()
	for _, s := range []impl.Ship{deep(819), slowly(deep(819))} {
		sure := sureOfEverySegment(trip{f: f, c: c, s: s})
		for to := 1; to < 5; to++ {
			for _, route := range impl.RoutesBetween(c, 0, to) {
				v := trip{f, c, s, 0, route}
				for _, start := range startsToTry(sure[route[0]]) {
					checkSail(t, v, start, slowSail(v, sure, start)...)
				}
			}
		}
	}
}

// minutesToTry gives minutes in time and beyond it.
func minutesToTry() []int { return []int{math.MinInt, -1, 0, 7, 400, 2880, 2881, math.MaxInt} }

// checkNoSail wants SailRoute and FirstSail to fail from every minute on.
func checkNoSail(t *testing.T, v trip) {
	t.Helper()
	for _, minute := range minutesToTry() {
		checkSail(t, v, minute)
		checkFirst(t, v, minute)
	}
}

func TestSailRouteRefusesRoutes(t *testing.T) {
	v := trip{still(), fullChart(), deep(100), 0, nil}
	for _, from := range numbersAround(8) {
		v.from = from
		for _, route := range [][]int{nil, {}, {10}, {-1}, {math.MinInt}, {math.MaxInt}} {
			v.route = route
			checkNoSail(t, v)
		}
	}
	for _, route := range [][]int{{1}, {8}, {0, 2}, {0, 5}, {0, 0}, {0, 1, 1}, {0, 1, 2, 6}, {0, 9, 3, 6}, {0, 1, 10}, {0, -1}, {6, 4}} {
		v.from, v.route = 0, route
		checkNoSail(t, v)
	}
	for _, from := range []int{math.MinInt, -1, 2, 7, 8, math.MaxInt} {
		v.from, v.route = from, []int{0}
		checkNoSail(t, v)
	}
	v.from, v.route = 0, slices.Repeat([]int{0, 5}, 5000)
	checkNoSail(t, v)
}

// Where what is not valid comes with a route, the level of 0 would be enough for all that is asked for.
func TestSailRouteRefuses(t *testing.T) {
	for _, f := range badForecasts() {
		checkNoSail(t, trip{f, lane("w"), deep(100), 0, nil})
		checkNoSail(t, trip{f, lane("ww", stretch(3000, 1)), deep(100), 0, along(1)})
		checkNoSail(t, trip{f, lane("www", stretch(3000, 1), stretch(3000, 2)), slowly(deep(100)), 2, []int{1, 0}})
	}
	for _, s := range badShips() {
		checkNoSail(t, trip{still(), lane("ww", stretch(3000, 1)), s, 0, along(1)})
		checkNoSail(t, trip{still(), lane("www", stretch(3000, 1), stretch(3000, 2)), s, 2, []int{1, 0}})
	}
	for _, c := range badCharts() {
		checkNoSail(t, trip{still(), c, deep(100), 0, nil})
		for number, s := range c.Segments {
			checkNoSail(t, trip{still(), c, deep(100), s.A, []int{number}})
			checkNoSail(t, trip{still(), c, slowly(deep(100)), s.B, []int{number}})
		}
	}
	checkNoSail(t, trip{})
}
