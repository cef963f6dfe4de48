package tests

import (
	"slices"
	"testing"

	"loop.example/g00831/impl"
)

// startResults gives the starts of two ships on every segment.
func startResults(f impl.Forecast, c impl.Chart) [][]impl.Window {
	var lists [][]impl.Window
	for number := range c.Segments {
		for _, s := range []impl.Ship{deep(750), slowly(deep(750))} {
			lists = append(lists, impl.SureStarts(f, c, number, s), impl.OpenStarts(f, c, number, s))
		}
	}
	return lists
}

func TestStartsAreNew(t *testing.T) {
	f, c := forecastOf(fullTide(), surge(0, -20, 20), surge(600, -30, 10)), fullChart()
	first := startResults(f, c)
	before := copiesOf(first)
	for _, list := range startResults(f, c) {
		spoilWindows(list)
	}
	checkKept(t, first, before, "after a change of later results")
	for i, list := range first {
		spoilWindows(list)
		checkKept(t, first[i+1:], before[i+1:], "after a change of another result")
	}
	checkKept(t, startResults(f, c), before, "the same calls again")
	first = startResults(f, c)
	spoil(f)
	clear(c.Points)
	clear(c.Segments)
	checkKept(t, first, before, "after a change of the arguments")
}

// forecastWithRoom gives a forecast with something of its own behind both of its lists, and the whole of them.
func forecastWithRoom(f impl.Forecast) (impl.Forecast, impl.Forecast) {
	whole := copyOfForecast(f)
	whole.Tide.Parts = append(whole.Tide.Parts, part(11, 12, 13))
	whole.Surges = append(whole.Surges, surge(14, 15, 16))
	begin := forecastOf(whole.Tide, whole.Surges[:len(f.Surges)]...)
	begin.Tide.Parts = whole.Tide.Parts[:len(f.Tide.Parts)]
	return begin, whole
}

// callClearance calls every function that takes a chart, of them those of a band with the forecast.
func callClearance(f impl.Forecast, c impl.Chart, number int, s impl.Ship) {
	impl.LevelFor(c, number, s)
	impl.IsAfloat(c, number, s, 90)
	impl.SureStarts(f, c, number, s)
	impl.OpenStarts(f, c, number, s)
	impl.IsSure(f, c, number, s, 150)
	impl.IsOpenStart(f, c, number, s, 150)
	impl.DraughtFor(f, c, number, s, 150)
}

func TestClearanceLeavesForecastsUnchanged(t *testing.T) {
	for _, good := range append(goodForecasts(), badForecasts()...) {
		f, whole := forecastWithRoom(good)
		_, before := forecastWithRoom(good)
		for _, s := range []impl.Ship{deep(750), slowly(deep(750)), {}} {
			callClearance(f, channel(800, 30), 0, s)
			callClearance(f, channel(800, 30), 1, s)
		}
		if !sameForecasts(whole, before) {
			t.Errorf("the forecast or the room behind it became %v, from %v", whole, before)
		}
	}
}

func TestClearanceLeavesChartsUnchanged(t *testing.T) {
	for _, good := range append(goodCharts(), badCharts()...) {
		c, whole := chartWithRoom(good)
		_, before := chartWithRoom(good)
		for _, s := range []impl.Ship{deep(750), slowly(deep(750)), {}} {
			callClearance(still(), c, 0, s)
			callClearance(still(), c, len(c.Segments), s)
		}
		if !sameCharts(whole, before) {
			t.Errorf("the chart or the room behind it became %v, from %v", whole, before)
		}
	}
}

// What lies behind the segments is no segment, even where its memory can be reached.
func TestClearanceWithoutTheRoomBehind(t *testing.T) {
	for _, good := range goodCharts() {
		c, _ := chartWithRoom(good)
		checkNoStart(t, still(), c, len(c.Segments), deep(100))
		checkDraught(t, still(), c, len(c.Segments), deep(100), 7, 0)
	}
}

func TestClearanceStaysTheSame(t *testing.T) {
	for range 50 {
		checkStarts(t, swell(), channel(610, 30), 0, deep(800), nil, windowsOf(100, 230, 820, 950, 1540, 1670, 2260, 2390))
		checkStarts(t, swell(), channel(970, 101), 0, deep(800), windowsOf(0, 359, 620, 1079, 1340, 1799, 2060, 2519), windowsOf(0, 2779))
		checkDraught(t, still(), channel(176, 30), 0, deep(800), 7, 120)
		checkStarts(t, swell(), channel(610, 30), 1, deep(800), nil, nil)
	}
}

func TestClearanceOfShipsLeavesThemUnchanged(t *testing.T) {
	fleet := append(goodShips(), badShips()...)
	before := slices.Clone(fleet)
	for i := range fleet {
		impl.NeedOf(fleet[i])
		callClearance(still(), channel(800, 30), 0, fleet[i])
	}
	if !slices.Equal(fleet, before) {
		t.Errorf("the ships became %+v, from %+v", fleet, before)
	}
}
