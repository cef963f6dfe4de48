package tests

import (
	"math"
	"testing"

	"loop.example/g00831/impl"
)

// slowSurges lays the surges over one another minute by minute, so that the last one that has begun stays.
func slowSurges(f impl.Forecast) []impl.Surge {
	minutes := make([]impl.Surge, 2881)
	for _, s := range f.Surges {
		for minute := s.From; minute <= 2880; minute++ {
			minutes[minute] = s
		}
	}
	return minutes
}

func checkSurge(t *testing.T, f impl.Forecast, minute int, wantLow int, wantHigh int, want bool) {
	t.Helper()
	if low, high, ok := impl.SurgeAt(f, minute); low != wantLow || high != wantHigh || ok != want {
		t.Errorf("SurgeAt(%v, %d) = %d, %d, %v, want %d, %d, %v", f, minute, low, high, ok, wantLow, wantHigh, want)
	}
}

func TestSurgeAt(t *testing.T) {
	f := forecastOf(tideOf(100, part(200, 720, 0)), surge(0, -20, 20), surge(600, -30, 10), surge(2880, 4, 5))
	for _, c := range []struct{ minute, low, high int }{
		{0, -20, 20}, {1, -20, 20}, {599, -20, 20}, {600, -30, 10}, {601, -30, 10}, {2879, -30, 10}, {2880, 4, 5},
	} {
		checkSurge(t, f, c.minute, c.low, c.high, true)
	}
}

func TestBandLevels(t *testing.T) {
	one := forecastOf(tideOf(100, part(200, 720, 0)), surge(0, -20, 20), surge(600, -30, 10))
	flat := forecastOf(impl.Tide{Mean: -1000}, surge(0, -500, 0), surge(2880, 499, 500))
	for _, c := range []struct {
		forecast          impl.Forecast
		minute, low, high int
	}{
		{one, 0, 80, 120}, {one, 180, 280, 320}, {one, 540, -120, -80}, {one, 599, -98, -58}, {one, 600, -107, -67}, {one, 900, 270, 310}, {one, 2880, 70, 110},
		{flat, 0, -1500, -1000}, {flat, 2879, -1500, -1000}, {flat, 2880, -501, -500},
	} {
		if low, high := impl.LowAt(c.forecast, c.minute), impl.HighAt(c.forecast, c.minute); low != c.low || high != c.high {
			t.Errorf("%v at %d: %d to %d, want %d to %d", c.forecast, c.minute, low, high, c.low, c.high)
		}
	}
}

// checkInBand wants the two levels and all between them, and none beyond them, to be in the band.
func checkInBand(t *testing.T, f impl.Forecast, minute int, low int, high int) {
	t.Helper()
	for _, level := range []int{low, high, low + (high-low)/2} {
		if !impl.InBand(f, minute, level) {
			t.Errorf("InBand(%v, %d, %d) is false", f, minute, level)
		}
	}
	for _, level := range []int{low - 1, high + 1, low - 1001, high + 1001, math.MinInt, math.MaxInt} {
		if impl.InBand(f, minute, level) {
			t.Errorf("InBand(%v, %d, %d) is true", f, minute, level)
		}
	}
}

func TestBandAtEveryMinute(t *testing.T) {
	for _, f := range goodForecasts() {
		levels := slowLevels(f.Tide)
		for minute, s := range slowSurges(f) {
			checkSurge(t, f, minute, s.Low, s.High, true)
			low, high := levels[minute]+s.Low, levels[minute]+s.High
			if got := impl.LowAt(f, minute); got != low {
				t.Errorf("LowAt(%v, %d) = %d, want %d", f, minute, got, low)
			}
			if got := impl.HighAt(f, minute); got != high {
				t.Errorf("HighAt(%v, %d) = %d, want %d", f, minute, got, high)
			}
			checkInBand(t, f, minute, low, high)
		}
	}
}

func TestInBandOfEveryLevel(t *testing.T) {
	f := forecastOf(tideOf(100, part(200, 720, 0)), surge(0, -20, 20), surge(600, -30, 10), surge(601, 0, 0))
	for _, c := range []struct{ minute, low, high int }{
		{180, 280, 320}, {599, -98, -58}, {600, -107, -67}, {601, -77, -77}, {2880, 100, 100},
	} {
		for level := -700; level <= 700; level++ {
			if got, want := impl.InBand(f, c.minute, level), c.low <= level && level <= c.high; got != want {
				t.Errorf("InBand at %d of %d is %v", c.minute, level, got)
			}
		}
	}
}

func checkNoBand(t *testing.T, f impl.Forecast, minute int) {
	t.Helper()
	checkSurge(t, f, minute, 0, 0, false)
	if low, high := impl.LowAt(f, minute), impl.HighAt(f, minute); low != 0 || high != 0 {
		t.Errorf("%v at %d: %d to %d, want 0 and 0", f, minute, low, high)
	}
	for _, level := range []int{0, 1, -1, 100, f.Tide.Mean, math.MinInt, math.MaxInt} {
		if impl.InBand(f, minute, level) {
			t.Errorf("InBand(%v, %d, %d) is true", f, minute, level)
		}
	}
}

func TestBandBeyondTime(t *testing.T) {
	for _, f := range goodForecasts() {
		for _, minute := range beyondTime() {
			checkNoBand(t, f, minute)
		}
	}
}

func TestBandOfBadForecasts(t *testing.T) {
	for _, f := range badForecasts() {
		for _, minute := range append(beyondTime(), 0, 1, 8, 9, 180, 600, 1441, 2879, 2880) {
			checkNoBand(t, f, minute)
		}
	}
}
