package tests

import (
	"math"
	"testing"

	"loop.example/g00831/impl"
)

func passageOf(ship int, number int, start int, end int) impl.Passage {
	return impl.Passage{Ship: ship, Segment: number, Toward: true, Start: start, End: end}
}

func backward(p impl.Passage) impl.Passage {
	p.Toward = false
	return p
}

// slowMinutes gives the time of a ship for a segment that exists.
func slowMinutes(c impl.Chart, number int, s impl.Ship) int {
	n := c.Segments[number].Minutes
	if s.Slow {
		n += c.Segments[number].Minutes
	}
	return n
}

// checkPassageOk asks for both directions, which make no difference.
func checkPassageOk(t *testing.T, c impl.Chart, fleet []impl.Ship, p impl.Passage, want bool) {
	t.Helper()
	for _, q := range []impl.Passage{p, backward(p)} {
		if got := impl.PassageOk(c, fleet, q); got != want {
			t.Errorf("PassageOk(%v, %+v, %+v) is %v", c, fleet, q, got)
		}
	}
}

func checkSafe(t *testing.T, f impl.Forecast, c impl.Chart, fleet []impl.Ship, p impl.Passage, want bool) {
	t.Helper()
	for _, q := range []impl.Passage{p, backward(p)} {
		if got := impl.IsSafePassage(f, c, fleet, q); got != want {
			t.Errorf("IsSafePassage(%v, %v, %+v, %+v) is %v", f, c, fleet, q, got)
		}
	}
}

func TestPassageOk(t *testing.T) {
	c, fleet := channel(800, 30), []impl.Ship{deep(800), slowly(shipOf("b", 120, 600, 2, 0))}
	for _, w := range []struct {
		passage impl.Passage
		want    bool
	}{
		{passageOf(0, 0, 0, 30), true}, {passageOf(0, 0, 0, 29), false}, {passageOf(0, 0, 0, 31), false}, {passageOf(0, 0, 0, 60), false}, {passageOf(0, 0, 0, 0), false},
		{passageOf(1, 0, 0, 60), true}, {passageOf(1, 0, 0, 59), false}, {passageOf(1, 0, 0, 61), false}, {passageOf(1, 0, 0, 30), false},
		{passageOf(0, 0, -1, 29), false}, {passageOf(0, 0, -30, 0), false}, {passageOf(0, 0, 1, 31), true},
		{passageOf(0, 0, 2850, 2880), true}, {passageOf(0, 0, 2851, 2881), false}, {passageOf(0, 0, 2851, 2880), false}, {passageOf(0, 0, 2880, 2910), false}, {passageOf(0, 0, 2880, 2880), false},
		{passageOf(1, 0, 2820, 2880), true}, {passageOf(1, 0, 2821, 2881), false}, {passageOf(1, 0, 2821, 2880), false},
		{passageOf(2, 0, 0, 30), false}, {passageOf(-1, 0, 0, 30), false}, {passageOf(0, 1, 0, 30), false}, {passageOf(0, -1, 0, 30), false}, {passageOf(0, 1, 0, 0), false}, {passageOf(2, 0, 0, 0), false},
		{impl.Passage{}, false},
	} {
		checkPassageOk(t, c, fleet, w.passage, w.want)
	}
	checkPassageOk(t, impl.Chart{}, fleet, passageOf(0, 0, 0, 0), false)
	checkPassageOk(t, c, nil, passageOf(0, 0, 0, 30), false)
}

// Where no int is large enough for the sum of Start and the ship's time, the passage does not end at what the sum wraps around to.
func TestPassageOkAtEveryEnd(t *testing.T) {
	for _, minutes := range []int{1, 30, 239, 240} {
		for _, s := range []impl.Ship{deep(800), slowly(deep(100))} {
			c := channel(800, minutes)
			n := slowMinutes(c, 0, s)
			for _, start := range append(endsAround(0, 2880-n), -n, -n-1, -2880, 100, 2879, 2880, 2881, math.MaxInt-n, math.MaxInt-n+1, math.MaxInt-n-1) {
				ends := []int{math.MinInt, -1, 0, 1, start, 2879, 2880, 2881, math.MaxInt}
				for more := -2; more <= 2; more++ {
					ends = append(ends, start+n+more)
				}
				for _, end := range ends {
					checkPassageOk(t, c, []impl.Ship{s}, passageOf(0, 0, start, end), within(start, 0, 2880-n) && end == start+n)
				}
			}
		}
	}
}

func TestPassageOkOfEveryShipAndSegment(t *testing.T) {
	for _, c := range goodCharts() {
		for _, n := range []int{0, 1, 2, 6} {
			fleet := someShips(n)
			for _, ship := range numbersAround(n) {
				for _, number := range numbersAround(len(c.Segments)) {
					if within(ship, 0, n-1) && within(number, 0, len(c.Segments)-1) {
						checkPassageOk(t, c, fleet, passageOf(ship, number, 100, 100+slowMinutes(c, number, fleet[ship])), true)
						checkPassageOk(t, c, fleet, passageOf(ship, number, 100, 99+slowMinutes(c, number, fleet[ship])), false)
						continue
					}
					checkPassageOk(t, c, fleet, passageOf(ship, number, 100, 130), false)
					checkPassageOk(t, c, fleet, passageOf(ship, number, 100, 100), false)
				}
			}
		}
	}
}

// checkNoPassage wants no passage to be valid or safe, from the least Start to the greatest one, with the time of the segment, of a slow ship and none.
func checkNoPassage(t *testing.T, c impl.Chart, fleet []impl.Ship, ship int, number int, minutes int) {
	t.Helper()
	for _, start := range []int{math.MinInt, -1, 0, 100, 2880, math.MaxInt} {
		for _, n := range []int{0, minutes, 2 * minutes} {
			checkPassageOk(t, c, fleet, passageOf(ship, number, start, start+n), false)
		}
	}
	for _, n := range []int{0, minutes, 2 * minutes} {
		checkSafe(t, still(), c, fleet, passageOf(ship, number, 100, 100+n), false)
	}
}

func TestPassageOkRefuses(t *testing.T) {
	for _, c := range badCharts() {
		for number, s := range c.Segments {
			checkNoPassage(t, c, []impl.Ship{deep(100)}, 0, number, s.Minutes)
		}
		checkNoPassage(t, c, []impl.Ship{slowly(deep(100))}, 0, 0, 1)
	}
	for _, fleet := range badFleets() {
		for ship := range fleet {
			checkNoPassage(t, channel(3000, 30), fleet, ship, 0, 30)
		}
	}
}

func TestIsSafePassageAtTheEndsOfWindows(t *testing.T) {
	for _, w := range []struct {
		depth, minutes int
		ship           impl.Ship
	}{{970, 100, deep(800)}, {946, 50, slowly(deep(800))}, {800, 30, deep(800)}, {776, 15, slowly(deep(800))}, {3000, 240, deep(100)}} {
		c := channel(w.depth, w.minutes)
		n := slowMinutes(c, 0, w.ship)
		sure := impl.SureStarts(swell(), c, 0, w.ship)
		if len(sure) == 0 {
			t.Errorf("no sure starts at depth %d", w.depth)
		}
		for _, in := range sure {
			checkSafe(t, swell(), c, []impl.Ship{w.ship}, passageOf(0, 0, in.From-1, in.From-1+n), false)
			checkSafe(t, swell(), c, []impl.Ship{w.ship}, passageOf(0, 0, in.From, in.From+n), true)
			checkSafe(t, swell(), c, []impl.Ship{w.ship}, passageOf(0, 0, in.To, in.To+n), true)
			checkSafe(t, swell(), c, []impl.Ship{w.ship}, passageOf(0, 0, in.To+1, in.To+1+n), false)
			for _, more := range []int{-1, 1} {
				checkSafe(t, swell(), c, []impl.Ship{w.ship}, passageOf(0, 0, in.From, in.From+n+more), false)
			}
		}
	}
}

// At the depth of 610 the level is enough on the high side of the band only, and never for certain.
func TestIsSafePassageAtOpenStarts(t *testing.T) {
	c, fleet := channel(610, 30), []impl.Ship{deep(800)}
	for _, start := range []int{100, 180, 230, 820, 2260, 2390} {
		checkPassageOk(t, c, fleet, passageOf(0, 0, start, start+30), true)
		checkIsStart(t, swell(), c, 0, fleet[0], start, false, true)
		checkSafe(t, swell(), c, fleet, passageOf(0, 0, start, start+30), false)
	}
}

// sureMinutes looks at every minute by itself: whether a ship can begin a segment then, whatever the level in the band is.
func sureMinutes(f impl.Forecast, c impl.Chart, number int, s impl.Ship) []bool {
	low, _ := slowEnds(f)
	return slowStarts(minutesFrom(low, slowNeed(s)-c.Segments[number].Depth), slowMinutes(c, number, s))
}

func TestIsSafePassageAtEveryMinute(t *testing.T) {
	f := forecastOf(fullTide(), surge(0, -20, 20), surge(600, -30, 10))
	c := chartOf(somePoints(3), impl.Segment{A: 0, B: 1, Depth: 700, Minutes: 9}, impl.Segment{A: 2, B: 1, Depth: 910, Minutes: 55})
	fleet := []impl.Ship{deep(819), slowly(shipOf("b", 120, 777, 0, 1))}
	for ship, s := range fleet {
		sure, n := sureMinutes(f, c, ship, s), slowMinutes(c, ship, s)
		for start := range 2881 {
			checkSafe(t, f, c, fleet, passageOf(ship, ship, start, start+n), sure[start])
		}
	}
}

// The segment and the ship are those of the passage: any other ones have other starts.
func TestIsSafePassageOfEveryShipAndSegment(t *testing.T) {
	c := chartOf(somePoints(3), impl.Segment{A: 0, B: 1, Depth: 500, Minutes: 30}, impl.Segment{A: 1, B: 2, Depth: 1000, Minutes: 30})
	fleet := []impl.Ship{shipOf("a", 100, 900, 0, 0), shipOf("b", 100, 400, 0, 0)}
	for _, ship := range numbersAround(2) {
		for _, number := range numbersAround(2) {
			want := ship == 1 && within(number, 0, 1) || ship == 0 && number == 1
			checkSafe(t, still(), c, fleet, passageOf(ship, number, 7, 37), want)
		}
	}
}

func TestIsSafePassageRefuses(t *testing.T) {
	for _, f := range badForecasts() {
		for _, s := range []impl.Ship{deep(100), slowly(deep(100))} {
			c := channel(3000, 1)
			checkSafe(t, f, c, []impl.Ship{s}, passageOf(0, 0, 0, slowMinutes(c, 0, s)), false)
			checkSafe(t, f, c, []impl.Ship{s}, passageOf(0, 0, 700, 700+slowMinutes(c, 0, s)), false)
		}
	}
	checkSafe(t, still(), channel(3000, 1), []impl.Ship{deep(100)}, passageOf(0, 0, 2879, 2880), true)
	checkSafe(t, impl.Forecast{}, impl.Chart{}, nil, impl.Passage{}, false)
}
