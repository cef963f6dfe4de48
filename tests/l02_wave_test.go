package tests

import (
	"math"
	"math/big"
	"testing"

	"loop.example/g00831/impl"
)

// slowWave follows the document in numbers of any size, where the remainder is never negative and Quo rounds towards 0.
func slowWave(n int, period int) int {
	half := big.NewInt(int64(period / 2))
	x := new(big.Int).Mod(big.NewInt(int64(n)), big.NewInt(int64(period)))
	sign := int64(1)
	if x.Cmp(half) >= 0 {
		x.Sub(x, half)
		sign = -1
	}
	top := new(big.Int).Sub(half, x)
	top.Mul(top, x).Mul(top, big.NewInt(40000))
	return int(sign * top.Quo(top, new(big.Int).Mul(half, half)).Int64())
}

func isPeriodOfDocument(period int) bool {
	return period >= 4 && period <= 2880 && period%4 == 0
}

func TestTideConstants(t *testing.T) {
	if impl.MaxMinute != 2880 || impl.MaxParts != 4 || impl.WaveTop != 10000 {
		t.Errorf("MaxMinute %d, MaxParts %d, WaveTop %d", impl.MaxMinute, impl.MaxParts, impl.WaveTop)
	}
}

func TestWave(t *testing.T) {
	for _, c := range []struct{ n, period, want int }{
		{0, 4, 0}, {1, 4, 10000}, {2, 4, 0}, {3, 4, -10000}, {4, 4, 0}, {5, 4, 10000}, {-1, 4, -10000}, {-2, 4, 0}, {-3, 4, 10000}, {-4, 4, 0},
		{0, 8, 0}, {1, 8, 7500}, {2, 8, 10000}, {3, 8, 7500}, {4, 8, 0}, {5, 8, -7500}, {6, 8, -10000}, {7, 8, -7500}, {8, 8, 0}, {-1, 8, -7500}, {-7, 8, 7500},
		{1, 12, 5555}, {2, 12, 8888}, {3, 12, 10000}, {4, 12, 8888}, {5, 12, 5555}, {7, 12, -5555}, {8, 12, -8888}, {9, 12, -10000}, {11, 12, -5555}, {-1, 12, -5555},
		{90, 720, 7500}, {180, 720, 10000}, {359, 720, 110}, {360, 720, 0}, {361, 720, -110}, {540, 720, -10000}, {719, 720, -110}, {-180, 720, -10000},
		{0, 2880, 0}, {1, 2880, 27}, {720, 2880, 10000}, {1439, 2880, 27}, {1440, 2880, 0}, {1441, 2880, -27}, {2160, 2880, -10000}, {2879, 2880, -27}, {2880, 2880, 0}, {-1, 2880, -27},
		{math.MinInt, 4, 0}, {math.MinInt + 1, 4, 10000}, {math.MaxInt, 4, -10000}, {math.MaxInt - 2, 4, 10000},
		{math.MinInt, 12, 8888}, {math.MaxInt, 12, -5555},
	} {
		if got := impl.Wave(c.n, c.period); got != c.want {
			t.Errorf("Wave(%d, %d) = %d, want %d", c.n, c.period, got, c.want)
		}
	}
}

// The value is checked by what rounding towards 0 means, without a division.
func TestWaveOfEveryPeriodAndMinute(t *testing.T) {
	for period := 4; period <= 2880; period += 4 {
		half := period / 2
		for x := range period {
			got, into := impl.Wave(x, period), x
			if x >= half {
				got, into = -got, x-half
			}
			top, square := 40000*into*(half-into), half*half
			if got < 0 || got*square > top || top >= (got+1)*square {
				t.Fatalf("Wave(%d, %d) = %d", x, period, impl.Wave(x, period))
			}
		}
	}
}

func TestWaveAtItsTurns(t *testing.T) {
	for period := 4; period <= 2880; period += 4 {
		quarter := period / 4
		for i, want := range []int{0, 10000, 0, -10000, 0} {
			if got := impl.Wave(i*quarter, period); got != want {
				t.Errorf("Wave(%d, %d) = %d, want %d", i*quarter, period, got, want)
			}
			if got := impl.Wave(-i*quarter, period); got != -want {
				t.Errorf("Wave(%d, %d) = %d, want %d", -i*quarter, period, got, -want)
			}
		}
	}
}

func TestWaveOfFarMinutes(t *testing.T) {
	for _, period := range []int{4, 8, 12, 20, 364, 720, 744, 1436, 1440, 2876, 2880} {
		for _, n := range someInts() {
			if got, want := impl.Wave(n, period), slowWave(n, period); got != want {
				t.Errorf("Wave(%d, %d) = %d, want %d", n, period, got, want)
			}
		}
	}
}

func TestWaveOfOtherPeriods(t *testing.T) {
	periods := []int{
		2881, 2882, 2883, 2884, 2888, 5760, 11520, 1 << 32, 1 << 62, math.MaxInt, math.MaxInt - 3,
		-720, -2880, -2884, -1 << 32, -1 << 62, math.MinInt, math.MinInt + 1, math.MinInt + 4,
	}
	for period := -3000; period <= 3000; period++ {
		if !isPeriodOfDocument(period) {
			periods = append(periods, period)
		}
	}
	for _, period := range periods {
		for _, n := range []int{0, 1, 2, 3, 5, -1, -2, -7, 180, 1440, 2879, math.MinInt, math.MaxInt} {
			if got := impl.Wave(n, period); got != 0 {
				t.Errorf("Wave(%d, %d) = %d, want 0", n, period, got)
			}
		}
	}
}
