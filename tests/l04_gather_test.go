package tests

import (
	"math"
	"slices"
	"testing"

	"loop.example/g00831/impl"
)

func checkGathered(t *testing.T, list []impl.Window, want []impl.Window) {
	t.Helper()
	got := impl.GatherWindows(list)
	checkWindows(t, got, want, "GatherWindows", list)
	if !impl.WindowsOk(got) {
		t.Errorf("GatherWindows(%v) = %v is not valid", list, got)
	}
}

func TestGatherWindows(t *testing.T) {
	for _, c := range []struct{ list, want []impl.Window }{
		{nil, nil},
		{[]impl.Window{}, nil},
		{windowsOf(50, 60, -5, 3, 4, 9, 20, 19, 2875, 9000), windowsOf(0, 9, 50, 60, 2875, 2880)},
		{windowsOf(0, 4, 5, 6), windowsOf(0, 6)},
		{windowsOf(5, 6, 0, 4), windowsOf(0, 6)},
		{windowsOf(0, 4, 6, 7), windowsOf(0, 4, 6, 7)},
		{windowsOf(6, 7, 0, 4), windowsOf(0, 4, 6, 7)},
		{windowsOf(6, 7, 0, 4, 5, 5), windowsOf(0, 7)},
		{windowsOf(0, 4, 4, 7), windowsOf(0, 7)},
		{windowsOf(2, 7, 0, 4), windowsOf(0, 7)},
		{windowsOf(0, 9, 3, 4), windowsOf(0, 9)},
		{windowsOf(3, 4, 0, 9), windowsOf(0, 9)},
		{windowsOf(0, 9, 3, 4, 6, 12), windowsOf(0, 12)},
		{windowsOf(0, 9, 0, 3, 5, 6), windowsOf(0, 9)},
		{windowsOf(0, 3, 0, 9, 8, 8), windowsOf(0, 9)},
		{windowsOf(7, 7, 7, 7), windowsOf(7, 7)},
		{windowsOf(3, 2), nil},
		{windowsOf(3, 2, 2880, 0), nil},
		{windowsOf(10, 20, 15, 14), windowsOf(10, 20)},
		{windowsOf(0, 4, 6, 5, 6, 7), windowsOf(0, 4, 6, 7)},
		{windowsOf(0, 2880), windowsOf(0, 2880)},
		{windowsOf(2880, 2880, 0, 0), windowsOf(0, 0, 2880, 2880)},
	} {
		checkGathered(t, c.list, c.want)
	}
}

func TestGatherWindowsBeyondTime(t *testing.T) {
	least, most := math.MinInt, math.MaxInt
	for _, c := range []struct{ list, want []impl.Window }{
		{windowsOf(-5, -1), nil}, {windowsOf(-5, 0), windowsOf(0, 0)}, {windowsOf(-1, -1), nil},
		{windowsOf(2881, 2881), nil}, {windowsOf(2881, 9000), nil}, {windowsOf(2880, 9000), windowsOf(2880, 2880)},
		{windowsOf(-1, 2881), windowsOf(0, 2880)}, {windowsOf(-1, 5, 2870, 2881), windowsOf(0, 5, 2870, 2880)},
		{windowsOf(least, most), windowsOf(0, 2880)}, {windowsOf(least, 7), windowsOf(0, 7)}, {windowsOf(7, most), windowsOf(7, 2880)},
		{windowsOf(least, -1), nil}, {windowsOf(2881, most), nil}, {windowsOf(least, least), nil}, {windowsOf(most, most), nil},
		{windowsOf(most, least), nil}, {windowsOf(0, least), nil}, {windowsOf(most, 0), nil}, {windowsOf(most, 2880), nil},
		{windowsOf(most, most, least, least), nil},
		{windowsOf(2881, most, 2880, 2880, least, -1, 0, 0), windowsOf(0, 0, 2880, 2880)},
		{windowsOf(9, most, least, 7), windowsOf(0, 7, 9, 2880)},
		{windowsOf(8, most, least, 7), windowsOf(0, 2880)},
		{windowsOf(5, 9, least, most, most, least), windowsOf(0, 2880)},
		{windowsOf(least, 3, -5, 9, -1, 1), windowsOf(0, 9)},
	} {
		checkGathered(t, c.list, c.want)
	}
}

func TestGatherWindowsOfEveryList(t *testing.T) {
	for _, list := range listsOf(append(beyondTime(), 0, 1, 2, 2879, 2880), 1) {
		checkGathered(t, list, slowWindows(minutesIn(list)))
	}
	for _, list := range listsOf([]int{math.MinInt, -1, 0, 1, 2, 3, 2879, 2880, 2881, math.MaxInt}, 2) {
		checkGathered(t, list, slowWindows(minutesIn(list)))
	}
	for _, list := range listsOf([]int{-1, 1, 2, 3, 5}, 3) {
		checkGathered(t, list, slowWindows(minutesIn(list)))
	}
}

// A list of windows is its own gathering, whatever the order of its elements, however often they stand there, and if they are cut into minutes.
func TestGatherWindowsOfWindows(t *testing.T) {
	for _, list := range goodWindows() {
		checkGathered(t, list, list)
		backward := slices.Clone(list)
		slices.Reverse(backward)
		checkGathered(t, backward, list)
		checkGathered(t, append(backward, list...), list)
		var cut []impl.Window
		for _, w := range backward {
			for minute := w.To; minute >= w.From; minute-- {
				cut = append(cut, impl.Window{From: minute, To: minute})
			}
		}
		checkGathered(t, cut, list)
	}
}

func TestGatherWindowsOfManyElements(t *testing.T) {
	for _, list := range badWindows() {
		checkGathered(t, list, slowWindows(minutesIn(list)))
	}
	checkGathered(t, append(everySecond(1), everySecond(0)...), windowsOf(0, 2880))
	x := 1
	for n := range 200 {
		var list []impl.Window
		for range n {
			x = (x*1103515245 + 12345) % (1 << 31)
			from := x/7%3400 - 200
			list = append(list, impl.Window{From: from, To: from + x/65536%60 - 5})
		}
		checkGathered(t, list, slowWindows(minutesIn(list)))
	}
}
