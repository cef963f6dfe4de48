package tests

import (
	"math"
	"testing"

	"loop.example/g00831/impl"
)

func checkStarts(t *testing.T, f impl.Forecast, c impl.Chart, number int, s impl.Ship, sure []impl.Window, open []impl.Window) {
	t.Helper()
	checkWindows(t, impl.SureStarts(f, c, number, s), sure, "SureStarts", f, c, number, s)
	checkWindows(t, impl.OpenStarts(f, c, number, s), open, "OpenStarts", f, c, number, s)
}

// swell has its high water of 280 to 320 at the minute 180 and its low water of -120 to -80 at 540, and again every 720 minutes.
func swell() impl.Forecast { return forecastOf(tideOf(100, part(200, 720, 0)), surge(0, -20, 20)) }

func TestStarts(t *testing.T) {
	quick, slow := deep(800), slowly(deep(800))
	for _, w := range []struct {
		depth, minutes int
		ship           impl.Ship
		sure, open     []impl.Window
	}{
		{610, 1, quick, nil, windowsOf(100, 259, 820, 979, 1540, 1699, 2260, 2419)},
		{610, 30, quick, nil, windowsOf(100, 230, 820, 950, 1540, 1670, 2260, 2390)},
		{610, 159, quick, nil, windowsOf(100, 101, 820, 821, 1540, 1541, 2260, 2261)},
		{610, 160, quick, nil, windowsOf(100, 100, 820, 820, 1540, 1540, 2260, 2260)},
		{610, 161, quick, nil, nil},
		{586, 30, slow, nil, windowsOf(100, 200, 820, 920, 1540, 1640, 2260, 2360)},
		{586, 80, slow, nil, windowsOf(100, 100, 820, 820, 1540, 1540, 2260, 2260)},
		{586, 81, slow, nil, nil},
		{970, 30, quick, windowsOf(0, 430, 620, 1150, 1340, 1870, 2060, 2590, 2780, 2850), windowsOf(0, 2850)},
		{970, 100, quick, windowsOf(0, 360, 620, 1080, 1340, 1800, 2060, 2520, 2780, 2780), windowsOf(0, 2780)},
		{970, 101, quick, windowsOf(0, 359, 620, 1079, 1340, 1799, 2060, 2519), windowsOf(0, 2779)},
		{946, 50, slow, windowsOf(0, 360, 620, 1080, 1340, 1800, 2060, 2520, 2780, 2780), windowsOf(0, 2780)},
		{946, 51, slow, windowsOf(0, 358, 620, 1078, 1340, 1798, 2060, 2518), windowsOf(0, 2778)},
		{1009, 240, quick, windowsOf(0, 299, 541, 1019, 1261, 1739, 1981, 2459), windowsOf(0, 2640)},
		{1010, 240, quick, windowsOf(0, 2640), windowsOf(0, 2640)}, {3000, 1, quick, windowsOf(0, 2879), windowsOf(0, 2879)},
		{986, 240, slow, windowsOf(0, 2400), windowsOf(0, 2400)}, {3000, 1, slow, windowsOf(0, 2878), windowsOf(0, 2878)},
		{570, 1, quick, nil, nil}, {569, 1, quick, nil, nil}, {0, 1, quick, nil, nil}, {0, 240, slow, nil, nil},
	} {
		checkStarts(t, swell(), channel(w.depth, w.minutes), 0, w.ship, w.sure, w.open)
	}
}

// A single dry minute, wherever it is, shuts out just the starts from which the ship would be on its way then.
func TestStartsAroundADryMinute(t *testing.T) {
	for _, at := range []int{1, 2, 29, 30, 31, 32, 700, 2848, 2849, 2850, 2851, 2879} {
		f := forecastOf(impl.Tide{Mean: 90}, surge(0, 0, 0), surge(at, -1, 0), surge(at+1, 0, 0))
		deeper := forecastOf(impl.Tide{Mean: 90}, surge(0, 0, 0), surge(at, -1, -1), surge(at+1, 0, 0))
		want := impl.GatherWindows(windowsOf(0, at-31, at+1, 2850))
		checkStarts(t, f, channel(800, 30), 0, deep(800), want, windowsOf(0, 2850))
		checkStarts(t, deeper, channel(800, 30), 0, deep(800), want, want)
		checkStarts(t, f, channel(776, 15), 0, slowly(deep(800)), want, windowsOf(0, 2850))
		checkStarts(t, deeper, channel(776, 15), 0, slowly(deep(800)), want, want)
	}
}

// slowEnds gives the levels at both ends of the band, minute by minute.
func slowEnds(f impl.Forecast) ([]int, []int) {
	low, high := slowLevels(f.Tide), slowLevels(f.Tide)
	for minute, s := range slowSurges(f) {
		low[minute] += s.Low
		high[minute] += s.High
	}
	return low, high
}

// waysToNeed gives ships and segments for which this level is the least one, as far as there are any.
func waysToNeed(level int) ([]impl.Ship, []impl.Chart) {
	var ships []impl.Ship
	var charts []impl.Chart
	for i, draught := range []int{100, 819, 2000} {
		for _, s := range []impl.Ship{deep(draught), slowly(deep(draught))} {
			if depth := slowNeed(s) - level; within(depth, 0, 3000) {
				ships, charts = append(ships, s), append(charts, channel(depth, []int{30, 1, 240}[i]))
			}
		}
	}
	return ships, charts
}

func TestStartsAtEveryMinute(t *testing.T) {
	for _, f := range goodForecasts() {
		low, high := slowEnds(f)
		for _, level := range append(edgeLevels(low), edgeLevels(high)...) {
			ships, charts := waysToNeed(max(min(level, 5000), -5000))
			for i, s := range ships {
				n := impl.MinutesOn(charts[i], 0, s)
				sure, open := slowStarts(minutesFrom(low, level), n), slowStarts(minutesFrom(high, level), n)
				checkStarts(t, f, charts[i], 0, s, slowWindows(sure), slowWindows(open))
			}
		}
	}
}

// afloatFrom asks for the level of each minute from the start until the ship's time is over, both included.
func afloatFrom(levels func(impl.Forecast, int) int, f impl.Forecast, c impl.Chart, number int, s impl.Ship, start int) bool {
	end := start + impl.MinutesOn(c, number, s)
	for minute := start; minute <= end; minute++ {
		if minute > 2880 || !impl.IsAfloat(c, number, s, levels(f, minute)) {
			return false
		}
	}
	return true
}

func TestStartsAreTheMinutesFromWhichAShipIsAfloat(t *testing.T) {
	f := forecastOf(fullTide(), surge(0, -20, 20), surge(600, -30, 10), surge(1500, -5, 60), surge(2600, 0, 0))
	c := chartOf(somePoints(8), pairsOf(5)...)
	for number := range c.Segments {
		c.Segments[number].Depth = 700 + 45*number
		for _, s := range []impl.Ship{deep(819), slowly(deep(819))} {
			sure, open := make([]bool, 2881), make([]bool, 2881)
			for start := range 2881 {
				sure[start], open[start] = afloatFrom(impl.LowAt, f, c, number, s, start), afloatFrom(impl.HighAt, f, c, number, s, start)
			}
			checkStarts(t, f, c, number, s, slowWindows(sure), slowWindows(open))
		}
	}
}

// From a sure start a ship is afloat on every level of the band, and every sure start is an open one.
func TestSureStartsAreSafe(t *testing.T) {
	f := forecastOf(tideOf(100, part(200, 720, 0), part(31, 1436, 7)), surge(0, -20, 20), surge(600, -9, 4), surge(2000, -41, -40))
	for _, s := range []impl.Ship{deep(800), slowly(deep(777))} {
		for _, c := range []impl.Chart{channel(700, 9), channel(800, 30), channel(850, 240), channel(3000, 2)} {
			sure, open := impl.SureStarts(f, c, 0, s), impl.OpenStarts(f, c, 0, s)
			checkWindows(t, impl.CommonWindows(sure, open), sure, "the sure and the open starts", c, s)
			for _, w := range sure {
				for minute := w.From; minute <= w.To+impl.MinutesOn(c, 0, s); minute++ {
					for level := impl.LowAt(f, minute); level <= impl.HighAt(f, minute); level++ {
						checkAfloat(t, c, 0, s, level, true)
					}
				}
			}
		}
	}
}

func TestEverySureStartIsAnOpenOne(t *testing.T) {
	for _, f := range goodForecasts() {
		for _, s := range goodShips() {
			for _, c := range []impl.Chart{channel(0, 1), channel(150, 30), channel(900, 240), channel(1700, 60), channel(2150, 1)} {
				sure, open := impl.SureStarts(f, c, 0, s), impl.OpenStarts(f, c, 0, s)
				checkWindows(t, impl.CommonWindows(sure, open), sure, "the sure and the open starts", f, c, s)
			}
		}
	}
}

// The segments of a chart have starts of their own.
func TestStartsOnEverySegment(t *testing.T) {
	f := forecastOf(fullTide(), surge(0, -20, 20), surge(600, -30, 10))
	low, high := slowEnds(f)
	for _, c := range goodCharts() {
		for _, s := range []impl.Ship{deep(700), slowly(deep(900))} {
			for number, on := range c.Segments {
				n, level := on.Minutes, slowNeed(s)-on.Depth
				if s.Slow {
					n += on.Minutes
				}
				sure, open := slowStarts(minutesFrom(low, level), n), slowStarts(minutesFrom(high, level), n)
				checkStarts(t, f, c, number, s, slowWindows(sure), slowWindows(open))
			}
		}
	}
}

// checkIsStart wants IsSure and IsOpenStart of one minute.
func checkIsStart(t *testing.T, f impl.Forecast, c impl.Chart, number int, s impl.Ship, minute int, sure bool, open bool) {
	t.Helper()
	if got := impl.IsSure(f, c, number, s, minute); got != sure {
		t.Errorf("IsSure(%v, %v, %d, %+v, %d) is %v", f, c, number, s, minute, got)
	}
	if got := impl.IsOpenStart(f, c, number, s, minute); got != open {
		t.Errorf("IsOpenStart(%v, %v, %d, %+v, %d) is %v", f, c, number, s, minute, got)
	}
}

func TestIsStartAtTheEndsOfWindows(t *testing.T) {
	c, s := channel(970, 100), deep(800)
	for _, w := range windowsOf(0, 360, 620, 1080, 1340, 1800, 2060, 2520, 2780, 2780) {
		checkIsStart(t, swell(), c, 0, s, w.From-1, false, w.From > 0)
		checkIsStart(t, swell(), c, 0, s, w.From, true, true)
		checkIsStart(t, swell(), c, 0, s, w.To, true, true)
		checkIsStart(t, swell(), c, 0, s, w.To+1, false, w.To < 2780)
	}
	for _, w := range windowsOf(100, 200, 820, 920, 1540, 1640, 2260, 2360) {
		checkIsStart(t, swell(), channel(586, 30), 0, slowly(s), w.From-1, false, false)
		checkIsStart(t, swell(), channel(586, 30), 0, slowly(s), w.From, false, true)
		checkIsStart(t, swell(), channel(586, 30), 0, slowly(s), w.To, false, true)
		checkIsStart(t, swell(), channel(586, 30), 0, slowly(s), w.To+1, false, false)
	}
}

func TestIsStartAtEveryMinute(t *testing.T) {
	f := forecastOf(fullTide(), surge(0, -20, 20), surge(600, -30, 10))
	low, high := slowEnds(f)
	for _, s := range []impl.Ship{deep(819), slowly(deep(819))} {
		level := slowNeed(s) - 900
		n := impl.MinutesOn(channel(900, 30), 0, s)
		sure, open := slowStarts(minutesFrom(low, level), n), slowStarts(minutesFrom(high, level), n)
		for minute := range 2881 {
			checkIsStart(t, f, channel(900, 30), 0, s, minute, sure[minute], open[minute])
		}
	}
}

func TestIsStartBeyondTime(t *testing.T) {
	for _, f := range goodForecasts() {
		for _, c := range []impl.Chart{channel(3000, 1), channel(900, 30)} {
			for _, s := range []impl.Ship{deep(100), slowly(deep(819))} {
				for _, minute := range beyondTime() {
					checkIsStart(t, f, c, 0, s, minute, false, false)
				}
			}
		}
	}
}

func checkNoStart(t *testing.T, f impl.Forecast, c impl.Chart, number int, s impl.Ship) {
	t.Helper()
	checkStarts(t, f, c, number, s, nil, nil)
	for _, minute := range []int{math.MinInt, -1, 0, 150, 2880, 2881, math.MaxInt} {
		checkIsStart(t, f, c, number, s, minute, false, false)
	}
}

// Without the refusals there would be starts: the level is enough for each of the ships, and the least level for what is not valid is 0.
func TestStartsRefuse(t *testing.T) {
	flood := forecastOf(impl.Tide{Mean: 1000}, surge(0, 400, 500))
	for _, f := range badForecasts() {
		for _, depth := range []int{0, 800, 3000} {
			checkNoStart(t, f, channel(depth, 1), 0, deep(100))
			checkNoStart(t, f, channel(depth, 1), 0, slowly(deep(100)))
		}
	}
	for _, c := range badCharts() {
		for number := range len(c.Segments) + 1 {
			checkNoStart(t, flood, c, number, deep(100))
		}
		checkNoStart(t, flood, c, -1, deep(100))
	}
	for _, s := range badShips() {
		for _, c := range goodCharts() {
			checkNoStart(t, flood, c, 0, s)
		}
	}
	for _, c := range goodCharts() {
		for _, number := range []int{math.MinInt, -2, -1, len(c.Segments), len(c.Segments) + 1, math.MaxInt} {
			checkNoStart(t, flood, c, number, deep(100))
			checkNoStart(t, flood, c, number, slowly(deep(100)))
		}
	}
	checkNoStart(t, impl.Forecast{}, impl.Chart{}, 0, impl.Ship{})
}
