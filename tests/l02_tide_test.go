package tests

import (
	"math"
	"slices"
	"testing"

	"loop.example/g00831/impl"
)

func part(amp int, period int, phase int) impl.Part {
	return impl.Part{Amp: amp, Period: period, Phase: phase}
}

func tideOf(mean int, parts ...impl.Part) impl.Tide {
	return impl.Tide{Mean: mean, Parts: parts}
}

func fullTide() impl.Tide {
	return tideOf(-35, part(200, 744, 0), part(61, 720, 719), part(33, 1436, 700), part(7, 2880, 1441))
}

// goodTides gives valid tides, among them those at the ends of every field.
func goodTides() []impl.Tide {
	ends := part(1000, 4, 3)
	return []impl.Tide{
		{},
		{Mean: 1000},
		{Mean: -1000, Parts: []impl.Part{}},
		tideOf(100, part(200, 720, 0)),
		tideOf(100, part(200, 720, 719)),
		tideOf(5, part(0, 4, 0), part(0, 2880, 2879)),
		tideOf(-3, part(1, 2880, 0)),
		tideOf(3, part(2, 2880, 1440)),
		tideOf(0, part(1, 12, 0), part(1, 12, 0), part(1, 12, 0)),
		tideOf(0, part(1, 12, 6), part(1, 12, 6), part(1, 12, 6)),
		tideOf(1000, ends, ends, ends, ends),
		tideOf(-1000, ends, part(1000, 2880, 2879), part(999, 2876, 0), part(1, 8, 7)),
		tideOf(0, part(500, 720, 0), part(500, 720, 360)),
		fullTide(),
	}
}

func badParts() []impl.Part {
	return []impl.Part{
		{}, part(1, 0, 0), part(1, -4, 0), part(1, 1, 0), part(1, 2, 0), part(1, 3, 0), part(1, 5, 0), part(1, 6, 0), part(1, 722, 0), part(1, 2879, 0), part(1, 2881, 0), part(1, 2884, 0), part(1, 5760, 0),
		part(1, math.MaxInt, 0), part(1, math.MaxInt-3, 0), part(1, math.MinInt, 0), part(1, -720, -721), part(1, math.MinInt, math.MinInt),
		part(-1, 720, 0), part(1001, 720, 0), part(math.MinInt, 720, 0), part(math.MaxInt, 720, 0),
		part(1, 720, -1), part(1, 720, 720), part(1, 720, 721), part(1, 720, 1440), part(1, 4, 4), part(1, 8, 8), part(1, 2880, 2880), part(1, 720, math.MaxInt), part(1, 720, math.MinInt),
	}
}

// badTides gives tides that are not valid: by their mean, by the number of their parts, or by one part at each place.
func badTides() []impl.Tide {
	list := []impl.Tide{
		{Mean: 1001}, {Mean: -1001}, {Mean: math.MaxInt}, {Mean: math.MinInt},
		{Mean: 1001, Parts: fullTide().Parts},
		{Mean: 5, Parts: append(fullTide().Parts, part(9, 720, 0))},
		{Mean: 5, Parts: append(fullTide().Parts, impl.Part{})},
		{Mean: 5, Parts: slices.Repeat(fullTide().Parts, 10)},
	}
	for _, p := range badParts() {
		list = append(list, tideOf(5, p))
		for i := range 4 {
			d := fullTide()
			d.Parts[i] = p
			list = append(list, d)
		}
	}
	return list
}

func TestPartOk(t *testing.T) {
	for _, p := range []impl.Part{
		part(0, 4, 0), part(1, 4, 3), part(1000, 4, 0), part(999, 8, 7), part(200, 720, 0), part(200, 720, 719), part(200, 2876, 2875), part(0, 2880, 0), part(1000, 2880, 2879),
	} {
		if !impl.PartOk(p) {
			t.Errorf("PartOk(%v) is false", p)
		}
	}
	for _, p := range badParts() {
		if impl.PartOk(p) {
			t.Errorf("PartOk(%v) is true", p)
		}
	}
}

func TestPartOkOfEveryPeriod(t *testing.T) {
	for period := -3000; period <= 6000; period++ {
		want := isPeriodOfDocument(period)
		for _, phase := range []int{0, period - 1} {
			if got := impl.PartOk(impl.Part{Amp: 10, Period: period, Phase: phase}); got != want {
				t.Errorf("PartOk with period %d and phase %d is %v", period, phase, got)
			}
		}
		for _, phase := range []int{-1, period} {
			if impl.PartOk(impl.Part{Amp: 10, Period: period, Phase: phase}) {
				t.Errorf("PartOk with period %d and phase %d is true", period, phase)
			}
		}
	}
}

func TestTideOk(t *testing.T) {
	for _, d := range goodTides() {
		if !impl.TideOk(d) {
			t.Errorf("TideOk(%v) is false", d)
		}
	}
	for _, d := range badTides() {
		if impl.TideOk(d) {
			t.Errorf("TideOk(%v) is true", d)
		}
	}
}

func TestTideOkOfEveryMeanAndNumberOfParts(t *testing.T) {
	for mean := -1100; mean <= 1100; mean++ {
		for n := range 7 {
			d := impl.Tide{Mean: mean, Parts: slices.Repeat([]impl.Part{part(3, 744, 1)}, n)}
			if got, want := impl.TideOk(d), mean >= -1000 && mean <= 1000 && n <= 4; got != want {
				t.Errorf("TideOk with mean %d and %d parts is %v", mean, n, got)
			}
		}
	}
}

func TestAmplitudeOf(t *testing.T) {
	for _, c := range []struct {
		tide impl.Tide
		want int
	}{
		{impl.Tide{}, 0},
		{impl.Tide{Mean: 900}, 0},
		{tideOf(100, part(200, 720, 0)), 200},
		{tideOf(-100, part(200, 720, 0), part(0, 4, 3), part(17, 720, 360)), 217},
		{impl.Tide{Parts: slices.Repeat([]impl.Part{part(1000, 2880, 2879)}, 4)}, 4000},
		{fullTide(), 301},
	} {
		if got := impl.AmplitudeOf(c.tide); got != c.want {
			t.Errorf("AmplitudeOf(%v) = %d, want %d", c.tide, got, c.want)
		}
	}
	for _, d := range badTides() {
		if got := impl.AmplitudeOf(d); got != 0 {
			t.Errorf("AmplitudeOf(%v) = %d, want 0", d, got)
		}
	}
}

func copyOf(d impl.Tide) impl.Tide {
	return impl.Tide{Mean: d.Mean, Parts: slices.Clone(d.Parts)}
}

func checkSame(t *testing.T, a impl.Tide, b impl.Tide, want bool) {
	t.Helper()
	if one, two := impl.SameTides(a, b), impl.SameTides(b, a); one != want || two != want {
		t.Errorf("SameTides(%v, %v) is %v, and %v the other way", a, b, one, two)
	}
}

func TestSameTides(t *testing.T) {
	for _, d := range append(goodTides(), badTides()...) {
		checkSame(t, d, d, true)
		checkSame(t, d, copyOf(d), true)
		roomy := impl.Tide{Mean: d.Mean, Parts: append(slices.Clone(d.Parts), impl.Part{Amp: 1})[:len(d.Parts)]}
		checkSame(t, d, roomy, true)
	}
	checkSame(t, impl.Tide{Mean: 7}, impl.Tide{Mean: 7, Parts: []impl.Part{}}, true)
	list := goodTides()
	for i, a := range list {
		for _, b := range list[i+1:] {
			checkSame(t, a, b, false)
		}
	}
}

func TestTidesThatDifferInOneField(t *testing.T) {
	for _, by := range []int{1, -1, 4, -4, 1 << 32, math.MinInt} {
		d := fullTide()
		d.Mean += by
		checkSame(t, fullTide(), d, false)
		for i := range 4 {
			for _, change := range []impl.Part{{Amp: by}, {Period: by}, {Phase: by}} {
				d := fullTide()
				d.Parts[i].Amp += change.Amp
				d.Parts[i].Period += change.Period
				d.Parts[i].Phase += change.Phase
				checkSame(t, fullTide(), d, false)
			}
		}
	}
}

func TestTidesThatDifferInTheirLists(t *testing.T) {
	for n := range 4 {
		shorter := fullTide()
		shorter.Parts = shorter.Parts[:n]
		checkSame(t, fullTide(), shorter, false)
		longer := copyOf(shorter)
		longer.Parts = append(longer.Parts, impl.Part{})
		checkSame(t, shorter, longer, false)
	}
	turned := fullTide()
	slices.Reverse(turned.Parts)
	checkSame(t, fullTide(), turned, false)
	many := impl.Tide{Parts: slices.Repeat(fullTide().Parts, 5)}
	other := copyOf(many)
	other.Parts[19].Phase++
	checkSame(t, many, other, false)
}

func TestTideArgumentsAreUnchanged(t *testing.T) {
	for _, d := range append(goodTides(), badTides()...) {
		room := append(slices.Clone(d.Parts), part(11, 12, 13), part(-1, -2, -3))
		before := slices.Clone(room)
		d.Parts = room[:len(d.Parts)]
		for range 2 {
			impl.TideOk(d)
			impl.LevelAt(d, 100)
			impl.HighestLevel(d, 0, 2880)
			impl.LowestLevel(d, 0, 2880)
			impl.AmplitudeOf(d)
			impl.SameTides(d, impl.Tide{Mean: d.Mean, Parts: room})
		}
		if !slices.Equal(room, before) {
			t.Errorf("the parts or the room behind them became %v, from %v", room, before)
		}
	}
}
