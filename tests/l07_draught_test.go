package tests

import (
	"math"
	"slices"
	"testing"

	"loop.example/g00831/impl"
)

func checkDraught(t *testing.T, f impl.Forecast, c impl.Chart, number int, s impl.Ship, minute int, want int) {
	t.Helper()
	if got := impl.DraughtFor(f, c, number, s, minute); got != want {
		t.Errorf("DraughtFor(%v, %v, %d, %+v, %d) is %d, want %d", f, c, number, s, minute, got, want)
	}
}

// still has the level 0 at every minute.
func still() impl.Forecast { return forecastOf(impl.Tide{}, surge(0, 0, 0)) }

func TestDraughtForTheEnds(t *testing.T) {
	s := deep(800)
	for _, w := range [][3]int{
		{0, 0, 0}, {151, 0, 0}, {152, 0, 100}, {153, 0, 101}, {154, 0, 102}, {155, 100, 103}, {156, 101, 104}, {174, 119, 122}, {175, 119, 123}, {176, 120, 124}, {890, 800, 824},
		{2087, 1940, 1998}, {2088, 1941, 1999}, {2089, 1942, 1999}, {2090, 1943, 2000}, {2091, 1944, 2000}, {2147, 1998, 2000}, {2148, 1999, 2000}, {2149, 1999, 2000}, {2150, 2000, 2000}, {2151, 2000, 2000}, {3000, 2000, 2000},
	} {
		for _, minute := range []int{0, 1, 700, 2820} {
			checkDraught(t, still(), channel(w[0], 30), 0, s, minute, w[1])
			checkDraught(t, still(), channel(w[0], 30), 0, slowly(s), minute, w[2])
		}
	}
}

// slowDraught tries the draughts one by one against the least level.
func slowDraught(s impl.Ship, depth int, level int) int {
	greatest := 0
	for s.Draught = 100; s.Draught <= 2000; s.Draught++ {
		if slowNeed(s) <= depth+level {
			greatest = s.Draught
		}
	}
	return greatest
}

func TestDraughtForEveryDepth(t *testing.T) {
	for depth := 0; depth <= 3000; depth += 1 + depth%5 {
		for _, s := range []impl.Ship{deep(800), slowly(deep(801))} {
			checkDraught(t, still(), channel(depth, 240), 0, s, depth%2400, slowDraught(s, depth, 0))
		}
	}
}

func TestDraughtForAtTheLastMinute(t *testing.T) {
	for _, f := range goodForecasts() {
		low, _ := slowEnds(f)
		for _, minutes := range []int{1, 30, 239, 240} {
			for _, s := range []impl.Ship{deep(800), slowly(deep(800))} {
				c := channel(2000, minutes)
				n := impl.MinutesOn(c, 0, s)
				last := 2880 - n
				checkDraught(t, f, c, 0, s, last, slowDraught(s, 2000, slices.Min(low[last:])))
				checkDraught(t, f, c, 0, s, last+1, 0)
				checkDraught(t, f, c, 0, s, 0, slowDraught(s, 2000, slices.Min(low[:n+1])))
				for _, minute := range append(beyondTime(), 2880) {
					checkDraught(t, f, c, 0, s, minute, 0)
				}
			}
		}
	}
}

// The least level of the ship's time is the one that counts, at whichever of its minutes it is.
func TestDraughtForAtManyMinutes(t *testing.T) {
	for _, f := range []impl.Forecast{swell(), forecastOf(fullTide(), surge(0, -20, 20), surge(600, -30, 10), surge(1500, -5, 60), surge(1501, -90, 0), surge(1502, -5, 60))} {
		low, _ := slowEnds(f)
		for minute := 0; minute <= 2880; minute += 17 {
			for _, s := range []impl.Ship{deep(100), slowly(deep(2000))} {
				c := channel(400, 25)
				want := 0
				if end := minute + impl.MinutesOn(c, 0, s); end <= 2880 {
					want = slowDraught(s, 400, slices.Min(low[minute:end+1]))
				}
				checkDraught(t, f, c, 0, s, minute, want)
			}
		}
	}
}

// Where the only dry minute is the first or the last one of the ship's time, it counts; one minute before or behind it does not.
func TestDraughtForAroundADryMinute(t *testing.T) {
	f := forecastOf(impl.Tide{Mean: 90}, surge(0, 0, 400), surge(1000, -400, 400), surge(1001, 0, 400))
	for _, w := range [][2]int{{969, 800}, {970, 419}, {971, 419}, {985, 419}, {999, 419}, {1000, 419}, {1001, 800}} {
		checkDraught(t, f, channel(800, 30), 0, deep(819), w[0], w[1])
	}
	for _, w := range [][2]int{{969, 824}, {970, 432}, {1000, 432}, {1001, 824}} {
		checkDraught(t, f, channel(800, 15), 0, slowly(deep(819)), w[0], w[1])
	}
}

// Every draught up to the greatest one is sure, and none above it is; the ship's own draught and its other fields make no difference.
func TestDraughtForIsTheGreatestSureOne(t *testing.T) {
	f := forecastOf(impl.Tide{Mean: 100}, surge(0, -20, 20), surge(600, -30, 10))
	for _, s := range []impl.Ship{deep(800), slowly(deep(800))} {
		for _, depth := range []int{70, 900, 2500} {
			c := channel(depth, 30)
			greatest := impl.DraughtFor(f, c, 0, s, 580)
			for _, other := range goodShips() {
				other.Slow = s.Slow
				checkDraught(t, f, c, 0, other, 580, greatest)
			}
			for draught := 100; draught <= 2000; draught++ {
				s.Draught = draught
				if got := impl.IsSure(f, c, 0, s, 580); got != (draught <= greatest) {
					t.Errorf("IsSure of %+v at depth %d is %v, and DraughtFor is %d", s, depth, got, greatest)
				}
			}
		}
	}
}

// The channel is wide open on the high side of the band, but only the low side is sure.
func TestDraughtForOfAWideBand(t *testing.T) {
	f := forecastOf(impl.Tide{}, surge(0, -500, 500))
	checkDraught(t, f, channel(654, 30), 0, deep(800), 0, 0)
	checkDraught(t, f, channel(655, 30), 0, deep(800), 0, 100)
	checkDraught(t, f, channel(2649, 30), 0, deep(800), 0, 1999)
	checkDraught(t, f, channel(2650, 30), 0, deep(800), 0, 2000)
	checkDraught(t, f, channel(2590, 30), 0, slowly(deep(800)), 0, 2000)
}

func TestDraughtForOnEverySegment(t *testing.T) {
	for _, c := range goodCharts() {
		for _, number := range numbersAround(len(c.Segments)) {
			for _, s := range []impl.Ship{deep(800), slowly(deep(800))} {
				want := 0
				if within(number, 0, len(c.Segments)-1) {
					want = slowDraught(s, c.Segments[number].Depth, 0)
				}
				checkDraught(t, still(), c, number, s, 7, want)
			}
		}
	}
}

// A ship whose draught alone is not valid has no other draught either.
func TestDraughtForRefuses(t *testing.T) {
	for _, s := range badShips() {
		for _, c := range append(goodCharts(), channel(800, 30), channel(3000, 1)) {
			checkDraught(t, still(), c, 0, s, 7, 0)
		}
	}
	for _, c := range badCharts() {
		for number := range len(c.Segments) + 1 {
			checkDraught(t, still(), c, number, deep(100), 7, 0)
			checkDraught(t, still(), c, number, slowly(deep(100)), 7, 0)
		}
	}
	for _, f := range badForecasts() {
		for _, minute := range []int{-1, 0, 7, 2880, math.MaxInt} {
			checkDraught(t, f, channel(3000, 1), 0, deep(100), minute, 0)
			checkDraught(t, f, channel(3000, 1), 0, slowly(deep(100)), minute, 0)
		}
	}
	checkDraught(t, impl.Forecast{}, impl.Chart{}, 0, impl.Ship{}, 0, 0)
}
