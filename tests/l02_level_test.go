package tests

import (
	"math"
	"testing"

	"loop.example/g00831/impl"
)

// slowLevel rounds each part by its size alone and puts the sign back afterwards.
func slowLevel(d impl.Tide, minute int) int {
	level := d.Mean
	for _, p := range d.Parts {
		size, sign := slowWave(minute+p.Phase, p.Period), 1
		if size < 0 {
			size, sign = -size, -1
		}
		level += sign * (p.Amp * size / 10000)
	}
	return level
}

func slowLevels(d impl.Tide) []int {
	var levels []int
	for minute := 0; minute <= 2880; minute++ {
		levels = append(levels, slowLevel(d, minute))
	}
	return levels
}

func beyondTime() []int {
	return []int{-1, -2, -720, -2880, 2881, 2882, 5760, 1 << 32, 1 << 62, math.MaxInt, math.MaxInt - 1, math.MinInt, math.MinInt + 1}
}

func TestLevelAt(t *testing.T) {
	one := tideOf(100, part(200, 720, 0))
	late := tideOf(100, part(200, 720, 540))
	up := tideOf(7, part(1, 12, 0), part(1, 12, 0), part(1, 12, 0))
	two := tideOf(-40, part(3, 12, 0), part(100, 8, 1))
	for _, c := range []struct {
		tide         impl.Tide
		minute, want int
	}{
		{impl.Tide{}, 0, 0}, {impl.Tide{Mean: 12}, 0, 12}, {impl.Tide{Mean: -1000}, 2880, -1000}, {impl.Tide{Mean: 1000}, 1, 1000},
		{one, 0, 100}, {one, 90, 250}, {one, 180, 300}, {one, 360, 100}, {one, 359, 102}, {one, 361, 98}, {one, 540, -100}, {one, 719, 98}, {one, 720, 100}, {one, 2880, 100}, {one, 2879, 98}, {one, 2340, 300},
		{late, 0, -100}, {late, 90, -50}, {late, 180, 100}, {late, 360, 300}, {late, 2880, -100},
		// Three parts of a little more than a half are 0 each, above and below the mean.
		{up, 1, 7}, {up, 2, 7}, {up, 3, 10}, {up, 7, 7}, {up, 8, 7}, {up, 9, 4}, {up, 2871, 10}, {up, 2877, 4}, {up, 2880, 7},
		{two, 0, 35}, {two, 1, 61}, {two, 2, 37}, {two, 3, -37}, {two, 5, -139}, {two, 7, -41}, {two, 8, 33},
	} {
		if got := impl.LevelAt(c.tide, c.minute); got != c.want {
			t.Errorf("LevelAt(%v, %d) = %d, want %d", c.tide, c.minute, got, c.want)
		}
	}
}

func TestLevelAtEveryMinute(t *testing.T) {
	for _, d := range goodTides() {
		for minute, want := range slowLevels(d) {
			if got := impl.LevelAt(d, minute); got != want {
				t.Errorf("LevelAt(%v, %d) = %d, want %d", d, minute, got, want)
			}
		}
	}
}

func TestLevelsStayWithinTheAmplitude(t *testing.T) {
	for _, d := range goodTides() {
		most := impl.AmplitudeOf(d)
		for minute := 0; minute <= 2880; minute++ {
			if away := impl.LevelAt(d, minute) - d.Mean; away > most || away < -most {
				t.Errorf("LevelAt(%v, %d) is %d from the mean, more than %d", d, minute, away, most)
			}
		}
	}
}

func TestLevelAtRefuses(t *testing.T) {
	for _, d := range goodTides() {
		for _, minute := range beyondTime() {
			if got := impl.LevelAt(d, minute); got != 0 {
				t.Errorf("LevelAt(%v, %d) = %d, want 0", d, minute, got)
			}
		}
	}
	for _, d := range badTides() {
		for _, minute := range append(beyondTime(), 0, 1, 180, 1440, 2880) {
			if got := impl.LevelAt(d, minute); got != 0 {
				t.Errorf("LevelAt(%v, %d) = %d, want 0", d, minute, got)
			}
		}
	}
}

// checkExtremes wants level and minute of the highest and of the lowest level, in this order.
func checkExtremes(t *testing.T, d impl.Tide, from int, to int, want [4]int) {
	t.Helper()
	high, highAt, one := impl.HighestLevel(d, from, to)
	low, lowAt, two := impl.LowestLevel(d, from, to)
	if got := [4]int{high, highAt, low, lowAt}; !one || !two || got != want {
		t.Errorf("%v from %d to %d: %v (%v, %v), want %v", d, from, to, got, one, two, want)
	}
}

func checkNoExtremes(t *testing.T, d impl.Tide, from int, to int) {
	t.Helper()
	if level, minute, ok := impl.HighestLevel(d, from, to); level != 0 || minute != 0 || ok {
		t.Errorf("HighestLevel(%v, %d, %d) = %d, %d, %v", d, from, to, level, minute, ok)
	}
	if level, minute, ok := impl.LowestLevel(d, from, to); level != 0 || minute != 0 || ok {
		t.Errorf("LowestLevel(%v, %d, %d) = %d, %d, %v", d, from, to, level, minute, ok)
	}
}

func TestExtremeLevels(t *testing.T) {
	one := tideOf(100, part(200, 720, 0))
	flat := impl.Tide{Mean: -7}
	still := tideOf(7, part(0, 720, 90))
	low := tideOf(-900, part(200, 720, 0))
	steps := tideOf(0, part(1, 2880, 0))
	for _, c := range []struct {
		tide     impl.Tide
		from, to int
		want     [4]int
	}{
		{one, 0, 700, [4]int{300, 180, -100, 540}},
		{one, 0, 2880, [4]int{300, 180, -100, 540}},
		{one, 180, 2880, [4]int{300, 180, -100, 540}},
		{one, 181, 2880, [4]int{300, 900, -100, 540}},
		{one, 541, 2880, [4]int{300, 900, -100, 1260}},
		{one, 0, 0, [4]int{100, 0, 100, 0}},
		{one, 540, 540, [4]int{-100, 540, -100, 540}},
		{one, 2880, 2880, [4]int{100, 2880, 100, 2880}},
		{one, 2879, 2880, [4]int{100, 2880, 98, 2879}},
		{one, 190, 530, [4]int{299, 190, -99, 528}},
		{low, 0, 2880, [4]int{-700, 180, -1100, 540}},
		{flat, 0, 2880, [4]int{-7, 0, -7, 0}},
		{flat, 17, 2000, [4]int{-7, 17, -7, 17}},
		{still, 0, 2880, [4]int{7, 0, 7, 0}},
		{still, 5, 6, [4]int{7, 5, 7, 5}},
		{steps, 0, 2880, [4]int{1, 720, -1, 2160}},
		{steps, 0, 719, [4]int{0, 0, 0, 0}},
		{steps, 721, 2880, [4]int{0, 721, -1, 2160}},
		{steps, 2161, 2880, [4]int{0, 2161, 0, 2161}},
	} {
		checkExtremes(t, c.tide, c.from, c.to, c.want)
	}
}

// slowExtremes looks from the last minute back, so that the first of several equal levels is the one that stays.
func slowExtremes(levels []int, from int, to int) [4]int {
	want := [4]int{levels[to], to, levels[to], to}
	for minute := to; minute >= from; minute-- {
		if levels[minute] >= want[0] {
			want[0], want[1] = levels[minute], minute
		}
		if levels[minute] <= want[2] {
			want[2], want[3] = levels[minute], minute
		}
	}
	return want
}

func TestExtremeLevelsOfManySpans(t *testing.T) {
	ends := []int{0, 1, 2, 179, 180, 181, 359, 360, 540, 700, 719, 720, 721, 1439, 1440, 1441, 2160, 2341, 2879, 2880}
	for _, d := range goodTides() {
		levels := slowLevels(d)
		for _, from := range ends {
			for _, to := range ends {
				if from <= to {
					checkExtremes(t, d, from, to, slowExtremes(levels, from, to))
				} else {
					checkNoExtremes(t, d, from, to)
				}
			}
		}
	}
}

func TestExtremeLevelsRefuse(t *testing.T) {
	for _, d := range goodTides() {
		for _, out := range beyondTime() {
			for _, minute := range append(beyondTime(), 0, 100, 2880) {
				checkNoExtremes(t, d, out, minute)
				checkNoExtremes(t, d, minute, out)
			}
		}
	}
	for _, d := range badTides() {
		checkNoExtremes(t, d, 0, 2880)
		checkNoExtremes(t, d, 180, 180)
		checkNoExtremes(t, d, 5, 4)
		checkNoExtremes(t, d, -1, 2881)
	}
}
