package tests

import (
	"math"
	"slices"
	"testing"

	"loop.example/g00831/impl"
)

func surge(from int, low int, high int) impl.Surge {
	return impl.Surge{From: from, Low: low, High: high}
}

func forecastOf(d impl.Tide, surges ...impl.Surge) impl.Forecast {
	return impl.Forecast{Tide: d, Surges: surges}
}

// fullSurges gives as many surges as a forecast may have, some of them for one minute only.
func fullSurges() []impl.Surge {
	return []impl.Surge{surge(0, -500, 500), surge(1, -20, 20), surge(600, 7, 7), surge(601, -30, 10), surge(1441, -500, -500), surge(2880, 499, 500)}
}

// goodSurges gives lists of surges that a valid forecast may have.
func goodSurges() [][]impl.Surge {
	return [][]impl.Surge{
		{surge(0, 0, 0)},
		{surge(0, -20, 20)},
		{surge(0, -500, -500)},
		{surge(0, 500, 500)},
		{surge(0, -20, 20), surge(600, -30, 10)},
		{surge(0, -20, 20), surge(600, -20, 20)},
		{surge(0, 5, 9), surge(2880, -9, -5)},
		{surge(0, 1, 2), surge(1, 3, 4), surge(2, 5, 6)},
		{surge(0, -1, 0), surge(2878, -2, 1), surge(2879, -3, 2), surge(2880, -4, 3)},
		fullSurges()[:5],
		fullSurges(),
	}
}

func goodForecasts() []impl.Forecast {
	var list []impl.Forecast
	for _, surges := range goodSurges() {
		list = append(list, forecastOf(tideOf(100, part(200, 720, 0)), surges...))
	}
	for _, d := range goodTides() {
		list = append(list, forecastOf(d, fullSurges()...))
	}
	return list
}

func badSurges() []impl.Surge {
	return []impl.Surge{
		surge(-1, -20, 20), surge(2881, -20, 20), surge(math.MinInt, -20, 20), surge(math.MaxInt, -20, 20),
		surge(0, -501, 20), surge(0, -501, -501), surge(0, math.MinInt, 20), surge(0, math.MinInt, math.MinInt),
		surge(0, -20, 501), surge(0, 501, 501), surge(0, -20, math.MaxInt), surge(0, math.MaxInt, math.MaxInt), surge(0, math.MinInt, math.MaxInt), surge(0, -501, 501),
		surge(0, 1, 0), surge(0, 0, -1), surge(0, 500, -500), surge(0, -499, -500), surge(0, 500, 499), surge(0, math.MaxInt, math.MinInt), surge(2880, 21, 20),
	}
}

// badForecasts gives forecasts that are not valid: by their tide, by the number of their surges, by one surge at each place, or by the order.
func badForecasts() []impl.Forecast {
	d := tideOf(100, part(200, 720, 0))
	list := []impl.Forecast{
		{}, {Tide: d}, {Tide: d, Surges: []impl.Surge{}}, {Surges: fullSurges()[1:]},
		forecastOf(d, surge(1, -20, 20)), forecastOf(d, surge(2880, -20, 20)), forecastOf(d, surge(1, -20, 20), surge(0, -20, 20)),
		forecastOf(d, surge(0, 1, 2), surge(0, 1, 2)), forecastOf(d, surge(0, 1, 2), surge(0, 3, 4)),
		forecastOf(d, surge(0, 1, 2), surge(9, 1, 2), surge(9, 1, 2)), forecastOf(d, surge(0, 1, 2), surge(9, 1, 2), surge(8, 1, 2)),
		forecastOf(d, surge(0, 1, 2), surge(9, 1, 2), surge(0, 1, 2)), forecastOf(d, surge(0, 1, 2), surge(2880, 1, 2), surge(2880, 1, 2)),
		forecastOf(d, surge(0, 0, 0), surge(1, 0, 0), surge(2, 0, 0), surge(3, 0, 0), surge(4, 0, 0), surge(5, 0, 0), surge(6, 0, 0)),
		forecastOf(d, slices.Repeat(fullSurges(), 20)...),
	}
	for _, bad := range badTides() {
		list = append(list, forecastOf(bad, surge(0, -20, 20)), forecastOf(bad, fullSurges()...))
	}
	for _, s := range badSurges() {
		for i, good := range fullSurges() {
			f := forecastOf(d, fullSurges()...)
			f.Surges[i] = s
			// A surge that begins in time is put in its place, so that only its ends are wrong.
			if 0 <= s.From && s.From <= 2880 {
				f.Surges[i].From = good.From
			}
			list = append(list, f)
		}
	}
	return list
}

func TestBandConstants(t *testing.T) {
	if impl.MaxSurges != 6 || impl.MaxSurge != 500 {
		t.Errorf("MaxSurges %d, MaxSurge %d", impl.MaxSurges, impl.MaxSurge)
	}
}

func TestSurgeOk(t *testing.T) {
	for _, list := range goodSurges() {
		for _, s := range list {
			if !impl.SurgeOk(s) {
				t.Errorf("SurgeOk(%v) is false", s)
			}
		}
	}
	for _, s := range badSurges() {
		if impl.SurgeOk(s) {
			t.Errorf("SurgeOk(%v) is true", s)
		}
	}
}

func TestSurgeOkAtTheEndsOfEveryField(t *testing.T) {
	for _, from := range append(beyondTime(), 0, 1, 600, 2879, 2880) {
		for low := -503; low <= 503; low++ {
			for _, high := range []int{math.MinInt, -501, -500, -499, low - 1, low, low + 1, 0, 499, 500, 501, math.MaxInt} {
				want := from >= 0 && from <= 2880 && low >= -500 && low <= high && high <= 500
				if got := impl.SurgeOk(surge(from, low, high)); got != want {
					t.Errorf("SurgeOk from %d, %d to %d, is %v", from, low, high, got)
				}
			}
		}
	}
}

func TestForecastOk(t *testing.T) {
	for _, f := range goodForecasts() {
		if !impl.ForecastOk(f) {
			t.Errorf("ForecastOk(%v) is false", f)
		}
	}
	for _, f := range badForecasts() {
		if impl.ForecastOk(f) {
			t.Errorf("ForecastOk(%v) is true", f)
		}
	}
}

// beginsOf gives all lists of n of the minutes, in every order.
func beginsOf(minutes []int, n int) [][]int {
	lists := [][]int{nil}
	for range n {
		var longer [][]int
		for _, l := range lists {
			for _, minute := range minutes {
				longer = append(longer, append(slices.Clone(l), minute))
			}
		}
		lists = longer
	}
	return lists
}

func TestForecastOkOfEveryOrder(t *testing.T) {
	for n := range 5 {
		for _, begins := range beginsOf([]int{-1, 0, 1, 2, 2879, 2880, 2881}, n) {
			var surges []impl.Surge
			for _, from := range begins {
				surges = append(surges, surge(from, -3, 4))
			}
			sorted := slices.Compact(slices.Sorted(slices.Values(begins)))
			want := n > 0 && slices.Equal(begins, sorted) && begins[0] == 0 && begins[n-1] <= 2880
			if got := impl.ForecastOk(forecastOf(fullTide(), surges...)); got != want {
				t.Errorf("ForecastOk of surges from %v is %v", begins, got)
			}
		}
	}
}

func TestForecastOkOfEveryNumberOfSurges(t *testing.T) {
	for n := range 30 {
		var surges []impl.Surge
		for i := range n {
			surges = append(surges, surge(90*i, -i, i))
		}
		if got, want := impl.ForecastOk(forecastOf(fullTide(), surges...)), n >= 1 && n <= 6; got != want {
			t.Errorf("ForecastOk with %d surges is %v", n, got)
		}
	}
}
