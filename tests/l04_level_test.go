package tests

import (
	"maps"
	"math"
	"slices"
	"testing"

	"loop.example/g00831/impl"
)

func checkLevelWindows(t *testing.T, f impl.Forecast, level int, low []impl.Window, high []impl.Window) {
	t.Helper()
	checkWindows(t, impl.LowWindows(f, level), low, "LowWindows", f, level)
	checkWindows(t, impl.HighWindows(f, level), high, "HighWindows", f, level)
}

func TestLevelWindows(t *testing.T) {
	all := windowsOf(0, 2880)
	wave := forecastOf(tideOf(100, part(200, 720, 0)), surge(0, -20, 20))
	flat := forecastOf(impl.Tide{Mean: -40}, surge(0, -10, 5), surge(600, -10, 6), surge(601, -11, 5), surge(2880, 0, 0))
	for _, c := range []struct {
		forecast  impl.Forecast
		level     int
		low, high []impl.Window
	}{
		{wave, math.MinInt, all, all}, {wave, -121, all, all}, {wave, -120, all, all}, {wave, -80, windowsOf(0, 460, 620, 1180, 1340, 1900, 2060, 2620, 2780, 2880), all},
		{wave, 280, windowsOf(180, 180, 900, 900, 1620, 1620, 2340, 2340), windowsOf(100, 260, 820, 980, 1540, 1700, 2260, 2420)},
		{wave, 281, nil, windowsOf(101, 259, 821, 979, 1541, 1699, 2261, 2419)},
		{wave, 320, nil, windowsOf(180, 180, 900, 900, 1620, 1620, 2340, 2340)},
		{wave, 321, nil, nil}, {wave, math.MaxInt, nil, nil},
		{flat, math.MinInt, all, all}, {flat, -52, all, all}, {flat, -51, all, all}, {flat, -50, windowsOf(0, 600, 2880, 2880), all}, {flat, -49, windowsOf(2880, 2880), all},
		{flat, -40, windowsOf(2880, 2880), all}, {flat, -39, nil, windowsOf(0, 2879)}, {flat, -35, nil, windowsOf(0, 2879)}, {flat, -34, nil, windowsOf(600, 600)}, {flat, -33, nil, nil},
		{flat, 0, nil, nil}, {flat, math.MaxInt, nil, nil},
	} {
		checkLevelWindows(t, c.forecast, c.level, c.low, c.high)
	}
}

// The level is reached from the minute on at which a surge begins, up to the minute before the next one, wherever these are.
func TestLevelWindowsWhereASurgeBegins(t *testing.T) {
	for from := 1; from <= 2880; from++ {
		f := forecastOf(impl.Tide{Mean: 7}, surge(0, -9, 3), surge(from, -4, 8))
		checkLevelWindows(t, f, 3, windowsOf(from, 2880), windowsOf(0, 2880))
		checkLevelWindows(t, f, 15, nil, windowsOf(from, 2880))
		if from < 2880 {
			one := forecastOf(impl.Tide{Mean: 7}, surge(0, -9, 3), surge(from, -4, 8), surge(from+1, -9, 3))
			checkLevelWindows(t, one, 3, windowsOf(from, from), windowsOf(0, 2880))
			checkLevelWindows(t, one, 15, nil, windowsOf(from, from))
			gap := forecastOf(impl.Tide{Mean: 7}, surge(0, -4, 8), surge(from, -9, 3), surge(from+1, -4, 8))
			checkLevelWindows(t, gap, 3, windowsOf(0, from-1, from+1, 2880), windowsOf(0, 2880))
			checkLevelWindows(t, gap, 15, nil, windowsOf(0, from-1, from+1, 2880))
		}
	}
}

// minutesFrom gives the minutes at which the level is reached.
func minutesFrom(levels []int, level int) []bool {
	minutes := make([]bool, len(levels))
	for minute := range levels {
		minutes[minute] = levels[minute] >= level
	}
	return minutes
}

// edgeLevels gives some of the levels of the list, the least and the greatest among them, and what lies beside them.
func edgeLevels(levels []int) []int {
	edges := map[int]bool{math.MinInt: true, math.MaxInt: true, 0: true}
	some := []int{slices.Min(levels), slices.Max(levels), levels[0], levels[2880], levels[700], levels[1441]}
	for _, level := range some {
		for by := -1; by <= 1; by++ {
			edges[level+by] = true
		}
	}
	return slices.Sorted(maps.Keys(edges))
}

func TestLevelWindowsAtEveryMinute(t *testing.T) {
	for _, f := range goodForecasts() {
		var low, high []int
		levels := slowLevels(f.Tide)
		for minute, s := range slowSurges(f) {
			low, high = append(low, levels[minute]+s.Low), append(high, levels[minute]+s.High)
		}
		for _, level := range append(edgeLevels(low), edgeLevels(high)...) {
			checkLevelWindows(t, f, level, slowWindows(minutesFrom(low, level)), slowWindows(minutesFrom(high, level)))
		}
	}
}

func TestLevelWindowsOfEveryLevel(t *testing.T) {
	f := forecastOf(fullTide(), surge(0, -20, 20), surge(600, -30, 10), surge(2000, 0, 0))
	for level := -400; level <= 400; level++ {
		low, high := make([]bool, 2881), make([]bool, 2881)
		for minute := range 2881 {
			low[minute], high[minute] = impl.LowAt(f, minute) >= level, impl.HighAt(f, minute) >= level
		}
		checkLevelWindows(t, f, level, slowWindows(low), slowWindows(high))
	}
}

func TestLevelWindowsRefuse(t *testing.T) {
	for _, f := range badForecasts() {
		for _, level := range []int{math.MinInt, -5000, -1, 0, 1, 5000, math.MaxInt} {
			checkLevelWindows(t, f, level, nil, nil)
		}
	}
}
