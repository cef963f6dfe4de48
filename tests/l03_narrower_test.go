package tests

import (
	"math"
	"testing"

	"loop.example/g00831/impl"
)

func checkNarrower(t *testing.T, a impl.Forecast, b impl.Forecast, want bool) {
	t.Helper()
	if got := impl.NarrowerBand(a, b); got != want {
		t.Errorf("NarrowerBand(%v, %v) is %v", a, b, got)
	}
}

func TestNarrowerBand(t *testing.T) {
	d := tideOf(100, part(200, 720, 0))
	base := forecastOf(d, surge(0, -20, 20), surge(600, -30, 10))
	for _, c := range []struct {
		surges       []impl.Surge
		within, over bool
	}{
		{[]impl.Surge{surge(0, -20, 20), surge(600, -30, 10)}, true, true},
		{[]impl.Surge{surge(0, -20, 20), surge(300, -20, 20), surge(600, -30, 10), surge(2880, -30, 10)}, true, true},
		{[]impl.Surge{surge(0, -20, 10)}, true, false},
		{[]impl.Surge{surge(0, -30, 20)}, false, true},
		{[]impl.Surge{surge(0, -19, 20), surge(600, -30, 10)}, true, false},
		{[]impl.Surge{surge(0, -20, 19), surge(600, -30, 10)}, true, false},
		{[]impl.Surge{surge(0, -20, 20), surge(600, -29, 9)}, true, false},
		{[]impl.Surge{surge(0, -21, 20), surge(600, -30, 10)}, false, true},
		{[]impl.Surge{surge(0, -20, 20), surge(600, -30, 11)}, false, true},
		{[]impl.Surge{surge(0, -21, 19), surge(600, -30, 10)}, false, false},
		{[]impl.Surge{surge(0, -19, 20), surge(600, -30, 11)}, false, false},
		{[]impl.Surge{surge(0, 21, 22), surge(600, -30, 10)}, false, false},
		{[]impl.Surge{surge(0, 20, 20), surge(600, -30, -30)}, true, false},
		{[]impl.Surge{surge(0, -500, 500)}, false, true},
		{[]impl.Surge{surge(0, -20, 20), surge(599, -30, 10)}, false, false},
		{[]impl.Surge{surge(0, -20, 20), surge(601, -30, 10)}, false, false},
	} {
		other := forecastOf(copyOf(d), c.surges...)
		checkNarrower(t, other, base, c.within)
		checkNarrower(t, base, other, c.over)
	}
}

func TestNarrowerBandOfEqualBands(t *testing.T) {
	for _, f := range goodForecasts() {
		checkNarrower(t, f, f, true)
		checkNarrower(t, f, copyOfForecast(f), true)
	}
	empty := forecastOf(impl.Tide{Mean: 7, Parts: []impl.Part{}}, surge(0, -1, 1))
	none := forecastOf(impl.Tide{Mean: 7}, surge(0, -1, 1))
	checkNarrower(t, empty, none, true)
	checkNarrower(t, none, empty, true)
}

// surgesWithOneMinute gives the surges of a band that is from -10 to 10 but at one minute.
func surgesWithOneMinute(minute int, low int, high int) []impl.Surge {
	var list []impl.Surge
	if minute > 0 {
		list = append(list, surge(0, -10, 10))
	}
	list = append(list, surge(minute, low, high))
	if minute < 2880 {
		list = append(list, surge(minute+1, -10, 10))
	}
	return list
}

func TestNarrowerBandThatDiffersAtOneMinute(t *testing.T) {
	d := fullTide()
	base := forecastOf(d, surge(0, -10, 10))
	for minute := range 2881 {
		for _, c := range []struct {
			low, high    int
			within, over bool
		}{
			{-11, 10, false, true}, {-10, 11, false, true}, {-9, 10, true, false}, {-10, 9, true, false}, {-11, 9, false, false}, {-9, 11, false, false},
		} {
			other := forecastOf(d, surgesWithOneMinute(minute, c.low, c.high)...)
			checkNarrower(t, other, base, c.within)
			checkNarrower(t, base, other, c.over)
		}
	}
}

func TestNarrowerBandOfEveryPair(t *testing.T) {
	d := fullTide()
	for _, one := range goodSurges() {
		for _, two := range goodSurges() {
			a, b := forecastOf(d, one...), forecastOf(d, two...)
			want, outer := true, slowSurges(b)
			for minute, inner := range slowSurges(a) {
				want = want && outer[minute].Low <= inner.Low && inner.High <= outer[minute].High
			}
			checkNarrower(t, a, b, want)
		}
	}
}

func TestNarrowerBandOfDifferentTides(t *testing.T) {
	list := goodTides()
	for i, one := range list {
		for j, two := range list {
			checkNarrower(t, forecastOf(one, surge(0, -1, 1)), forecastOf(two, surge(0, -500, 500)), i == j)
		}
	}
	// The levels are the same at every minute, but the tides are not.
	still := forecastOf(tideOf(7, part(0, 720, 0)), surge(0, -1, 1))
	flat := forecastOf(impl.Tide{Mean: 7}, surge(0, -1, 1))
	checkNarrower(t, still, flat, false)
	checkNarrower(t, flat, still, false)
	for _, by := range []int{1, -1} {
		d := fullTide()
		d.Mean += by
		checkNarrower(t, forecastOf(d, surge(0, 0, 0)), forecastOf(fullTide(), surge(0, -500, 500)), false)
		d = fullTide()
		d.Parts[3].Phase += by
		checkNarrower(t, forecastOf(d, surge(0, 0, 0)), forecastOf(fullTide(), surge(0, -500, 500)), false)
	}
}

func TestNarrowerBandRefuses(t *testing.T) {
	for _, bad := range badForecasts() {
		wide := forecastOf(bad.Tide, surge(0, -500, 500))
		checkNarrower(t, bad, bad, false)
		checkNarrower(t, bad, copyOfForecast(bad), false)
		checkNarrower(t, bad, wide, false)
		checkNarrower(t, wide, bad, false)
	}
	d := fullTide()
	checkNarrower(t, forecastOf(d, surge(0, 0, 0)), forecastOf(d, surge(0, math.MinInt, math.MaxInt)), false)
	checkNarrower(t, forecastOf(d, surge(0, 1, 0)), forecastOf(d, surge(0, 0, 1)), false)
}
