package tests

import (
	"maps"
	"math"
	"slices"
	"testing"

	"loop.example/g00831/impl"
)

func sameForecasts(a impl.Forecast, b impl.Forecast) bool {
	return impl.SameTides(a.Tide, b.Tide) && slices.Equal(a.Surges, b.Surges)
}

func copyOfForecast(f impl.Forecast) impl.Forecast {
	return impl.Forecast{Tide: copyOf(f.Tide), Surges: slices.Clone(f.Surges)}
}

func checkRevised(t *testing.T, f impl.Forecast, minute int, low int, high int, want []impl.Surge) {
	t.Helper()
	got, ok := impl.ReviseBand(f, minute, low, high)
	if !ok || !sameForecasts(got, impl.Forecast{Tide: f.Tide, Surges: want}) {
		t.Errorf("ReviseBand(%v, %d, %d, %d) = %v, %v, want %v", f, minute, low, high, got, ok, want)
	}
	if !impl.ForecastOk(got) {
		t.Errorf("ReviseBand(%v, %d, %d, %d) = %v is not valid", f, minute, low, high, got)
	}
}

func checkNotRevised(t *testing.T, f impl.Forecast, minute int, low int, high int) {
	t.Helper()
	got, ok := impl.ReviseBand(f, minute, low, high)
	if ok || got.Tide.Mean != 0 || len(got.Tide.Parts) != 0 || len(got.Surges) != 0 {
		t.Errorf("ReviseBand(%v, %d, %d, %d) = %v, %v, want the zero value and false", f, minute, low, high, got, ok)
	}
}

func TestReviseBandBetweenSurges(t *testing.T) {
	first, second := surge(0, -20, 20), surge(600, -30, 10)
	f := forecastOf(fullTide(), first, second)
	for _, c := range []struct {
		minute, low, high int
		want              []impl.Surge
	}{
		{100, 0, 50, []impl.Surge{first, surge(100, 0, 20), second}},
		{100, -50, 0, []impl.Surge{first, surge(100, -20, 0), second}},
		{100, -5, 5, []impl.Surge{first, surge(100, -5, 5), second}},
		{100, -20, 20, []impl.Surge{first, surge(100, -20, 20), second}},
		{100, -21, 21, []impl.Surge{first, surge(100, -20, 20), second}},
		{100, math.MinInt, math.MaxInt, []impl.Surge{first, surge(100, -20, 20), second}},
		{100, math.MinInt, 3, []impl.Surge{first, surge(100, -20, 3), second}},
		{100, 3, math.MaxInt, []impl.Surge{first, surge(100, 3, 20), second}},
		{100, 20, 20, []impl.Surge{first, surge(100, 20, 20), second}},
		{100, -20, -20, []impl.Surge{first, surge(100, -20, -20), second}},
		{1, 0, 1, []impl.Surge{first, surge(1, 0, 1), second}},
		{599, 0, 1, []impl.Surge{first, surge(599, 0, 1), second}},
		{601, 0, 1, []impl.Surge{first, second, surge(601, 0, 1)}},
		{2880, -25, 50, []impl.Surge{first, second, surge(2880, -25, 10)}},
	} {
		checkRevised(t, f, c.minute, c.low, c.high, c.want)
	}
}

func TestReviseBandWhereASurgeBegins(t *testing.T) {
	first, second, third := surge(0, -20, 20), surge(600, -30, 10), surge(2880, 5, 9)
	f := forecastOf(fullTide(), first, second, third)
	for _, c := range []struct {
		minute, low, high int
		want              []impl.Surge
	}{
		{0, -5, 500, []impl.Surge{surge(0, -5, 20), second, third}},
		{0, -20, 20, []impl.Surge{first, second, third}},
		{600, -30, 10, []impl.Surge{first, second, third}},
		{600, math.MinInt, math.MaxInt, []impl.Surge{first, second, third}},
		{600, -600, 600, []impl.Surge{first, second, third}},
		{600, -29, 9, []impl.Surge{first, surge(600, -29, 9), third}},
		{600, -100, -30, []impl.Surge{first, surge(600, -30, -30), third}},
		{600, 10, 100, []impl.Surge{first, surge(600, 10, 10), third}},
		{2880, 6, 8, []impl.Surge{first, second, surge(2880, 6, 8)}},
	} {
		checkRevised(t, f, c.minute, c.low, c.high, c.want)
	}
}

func TestReviseBandLeavesNoRoom(t *testing.T) {
	f := forecastOf(fullTide(), surge(0, -20, 20), surge(600, 500, 500), surge(700, -500, -500))
	for _, c := range []struct{ minute, low, high int }{
		{100, 21, 50}, {100, 21, 21}, {100, -50, -21}, {100, 1, 0}, {100, 20, -20}, {100, 50, -50},
		{0, 21, 50}, {0, 501, 501}, {0, -501, -501},
		{100, math.MaxInt, math.MaxInt}, {100, math.MinInt, math.MinInt}, {100, math.MaxInt, math.MinInt}, {100, math.MinInt, -21}, {100, 21, math.MaxInt},
		{600, 501, 501}, {600, 501, math.MaxInt}, {600, -500, 499}, {650, 501, 502}, {650, 0, 499},
		{700, -499, 0}, {700, -501, -501}, {700, math.MinInt, -501}, {2880, -499, 0}, {2880, -600, -501},
	} {
		checkNotRevised(t, f, c.minute, c.low, c.high)
	}
}

func TestReviseBandWithoutPlaceForASurge(t *testing.T) {
	full := forecastOf(fullTide(), fullSurges()...)
	for _, minute := range []int{2, 599, 602, 1440, 1442, 2879} {
		checkNotRevised(t, full, minute, math.MinInt, math.MaxInt)
		checkNotRevised(t, full, minute, -500, 500)
		checkNotRevised(t, full, minute, 7, 7)
	}
	for i, s := range fullSurges() {
		checkRevised(t, full, s.From, math.MinInt, math.MaxInt, fullSurges())
		want := fullSurges()
		want[i].High = s.Low
		checkRevised(t, full, s.From, math.MinInt, s.Low, want)
	}
	five := forecastOf(fullTide(), fullSurges()[:5]...)
	checkRevised(t, five, 2880, -500, -400, append(fullSurges()[:5], surge(2880, -500, -500)))
}

func TestReviseBandRefuses(t *testing.T) {
	for _, f := range goodForecasts() {
		for _, minute := range beyondTime() {
			checkNotRevised(t, f, minute, -500, 500)
			checkNotRevised(t, f, minute, math.MinInt, math.MaxInt)
		}
	}
	for _, f := range badForecasts() {
		for _, minute := range append(beyondTime(), 0, 1, 8, 9, 600, 601, 2880) {
			checkNotRevised(t, f, minute, math.MinInt, math.MaxInt)
			checkNotRevised(t, f, minute, -1, 1)
		}
	}
}

// slowRevise keeps the surges by the minute at which they begin and puts them in order at the end; s is the surge at minute.
func slowRevise(f impl.Forecast, s impl.Surge, minute int, low int, high int) ([]impl.Surge, bool) {
	begin := map[int]impl.Surge{}
	for _, other := range f.Surges {
		begin[other.From] = other
	}
	s.From = minute
	if low > s.Low {
		s.Low = low
	}
	if high < s.High {
		s.High = high
	}
	begin[minute] = s
	var list []impl.Surge
	for _, from := range slices.Sorted(maps.Keys(begin)) {
		list = append(list, begin[from])
	}
	return list, s.Low <= s.High && len(list) <= 6
}

func TestReviseBandOfManyReadings(t *testing.T) {
	ends := []int{math.MinInt, -501, -500, -30, -20, -1, 0, 7, 10, 20, 499, 500, 501, math.MaxInt}
	for _, f := range goodForecasts() {
		minutes := slowSurges(f)
		for _, minute := range []int{0, 1, 2, 180, 599, 600, 601, 602, 1440, 1441, 2878, 2879, 2880} {
			for _, low := range ends {
				for _, high := range ends {
					if want, ok := slowRevise(f, minutes[minute], minute, low, high); ok {
						checkRevised(t, f, minute, low, high, want)
					} else {
						checkNotRevised(t, f, minute, low, high)
					}
				}
			}
		}
	}
}

// The band before the reading and after the next surge stays; between them it lies within both the old band and the reading.
func TestRevisedBandAtEveryMinute(t *testing.T) {
	f := forecastOf(tideOf(100, part(200, 720, 0)), surge(0, -20, 20), surge(600, -30, 10))
	for minute := 0; minute <= 2880; minute += 60 {
		g, ok := impl.ReviseBand(f, minute, -10, 5)
		if !ok || !impl.NarrowerBand(g, f) || impl.NarrowerBand(f, g) {
			t.Errorf("after a reading at %d: %v, %v", minute, g, ok)
		}
		for m := range 2881 {
			low, high := impl.LowAt(f, m), impl.HighAt(f, m)
			if m >= minute && (minute >= 600 || m < 600) {
				low, high = impl.LevelAt(f.Tide, m)-10, impl.LevelAt(f.Tide, m)+5
			}
			if impl.LowAt(g, m) != low || impl.HighAt(g, m) != high {
				t.Errorf("after a reading at %d: %d to %d at %d, want %d to %d", minute, impl.LowAt(g, m), impl.HighAt(g, m), m, low, high)
			}
		}
	}
}

func spoil(f impl.Forecast) {
	for i := range f.Tide.Parts {
		f.Tide.Parts[i] = part(-1, -2, -3)
	}
	for i := range f.Surges {
		f.Surges[i] = surge(-4, -5, -6)
	}
	_ = append(f.Tide.Parts, part(-7, -8, -9))
	_ = append(f.Surges, surge(-7, -8, -9))
}

func TestRevisedBandIsNew(t *testing.T) {
	for _, minute := range []int{0, 100, 600, 601, 2880} {
		for _, high := range []int{500, 5} {
			f := forecastOf(fullTide(), surge(0, -20, 20), surge(600, -30, 10))
			before := copyOfForecast(f)
			first, _ := impl.ReviseBand(f, minute, -500, high)
			kept := copyOfForecast(first)
			second, _ := impl.ReviseBand(f, minute, -500, high)
			spoil(second)
			if !sameForecasts(f, before) || !sameForecasts(first, kept) {
				t.Errorf("a change of the result at %d changes %v or %v", minute, f, first)
			}
			spoil(f)
			if !sameForecasts(first, kept) {
				t.Errorf("a change of the argument changes the result at %d: %v", minute, first)
			}
		}
	}
}

func TestBandArgumentsAreUnchanged(t *testing.T) {
	for _, f := range append(goodForecasts(), badForecasts()...) {
		parts := append(slices.Clone(f.Tide.Parts), part(11, 12, 13), part(-1, -2, -3))
		surges := append(slices.Clone(f.Surges), surge(14, 15, 16), surge(-4, -5, -6))
		before := copyOfForecast(forecastOf(impl.Tide{Parts: parts}, surges...))
		f.Tide.Parts, f.Surges = parts[:len(f.Tide.Parts)], surges[:len(f.Surges)]
		for _, minute := range []int{0, 100, 601, 2879, 2880} {
			impl.ForecastOk(f)
			impl.SurgeAt(f, minute)
			impl.LowAt(f, minute)
			impl.HighAt(f, minute)
			impl.InBand(f, minute, 100)
			impl.ReviseBand(f, minute, 0, 1)
			impl.ReviseBand(f, minute, -500, 500)
			impl.NarrowerBand(f, f)
		}
		if !slices.Equal(parts, before.Tide.Parts) || !slices.Equal(surges, before.Surges) {
			t.Errorf("the lists or the room behind them became %v and %v, from %v", parts, surges, before)
		}
	}
}
