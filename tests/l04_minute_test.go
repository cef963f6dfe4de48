package tests

import (
	"math"
	"slices"
	"testing"

	"loop.example/g00831/impl"
)

func checkHas(t *testing.T, list []impl.Window, minute int, want bool) {
	t.Helper()
	if got := impl.HasMinute(list, minute); got != want {
		t.Errorf("HasMinute(%v, %d) is %v", list, minute, got)
	}
}

func TestHasMinute(t *testing.T) {
	three := windowsOf(0, 9, 50, 60, 2875, 2880)
	for _, minute := range []int{0, 1, 8, 9, 50, 51, 59, 60, 2875, 2879, 2880} {
		checkHas(t, three, minute, true)
	}
	for _, minute := range append(beyondTime(), 10, 11, 49, 61, 1440, 2874) {
		checkHas(t, three, minute, false)
	}
	for _, minute := range append(beyondTime(), 0, 1, 2880) {
		checkHas(t, nil, minute, false)
		checkHas(t, []impl.Window{}, minute, false)
	}
}

func TestHasMinuteOfEveryMinute(t *testing.T) {
	for _, list := range append(goodWindows(), badWindows()...) {
		for minute, want := range minutesIn(list) {
			checkHas(t, list, minute, want)
		}
	}
}

// An element need not lie in time, nor behind the one before it, to have its minutes.
func TestHasMinuteOfOtherLists(t *testing.T) {
	least, most := math.MinInt, math.MaxInt
	for _, c := range []struct {
		list   []impl.Window
		minute int
		want   bool
	}{
		{windowsOf(-10, -5), -7, true}, {windowsOf(-10, -5), -10, true}, {windowsOf(-10, -5), -5, true}, {windowsOf(-10, -5), -11, false}, {windowsOf(-10, -5), -4, false}, {windowsOf(-10, -5), 0, false},
		{windowsOf(2870, 9000), 2881, true}, {windowsOf(2870, 9000), 9000, true}, {windowsOf(2870, 9000), 9001, false}, {windowsOf(3000, 3001), 3000, true}, {windowsOf(3000, 3001), 2880, false},
		{windowsOf(least, most), least, true}, {windowsOf(least, most), most, true}, {windowsOf(least, most), -1, true}, {windowsOf(least, most), 0, true}, {windowsOf(least, most), 2881, true},
		{windowsOf(least, least), least, true}, {windowsOf(least, least), least + 1, false}, {windowsOf(most, most), most, true}, {windowsOf(most, most), most - 1, false}, {windowsOf(least, least), most, false}, {windowsOf(most, most), least, false},
		{windowsOf(most, least), 0, false}, {windowsOf(most, least), most, false}, {windowsOf(most, least), least, false},
		{windowsOf(9, 5), 7, false}, {windowsOf(9, 5), 9, false}, {windowsOf(9, 5), 5, false}, {windowsOf(9, 5, 7, 7), 7, true},
		{windowsOf(50, 60, 0, 9), 4, true}, {windowsOf(50, 60, 0, 9), 55, true}, {windowsOf(50, 60, 0, 9), 30, false},
		{windowsOf(0, 9, 0, 9), 9, true}, {windowsOf(0, 9, 10, 12), 10, true}, {windowsOf(0, 9, 3, 4), 7, true}, {windowsOf(0, 9, 5, 12), 12, true}, {windowsOf(0, 9, 5, 12), 13, false},
		{windowsOf(20, 19, -3, -1, 9000, 9000), -2, true}, {windowsOf(20, 19, -3, -1, 9000, 9000), 9000, true}, {windowsOf(20, 19, -3, -1, 9000, 9000), 20, false},
	} {
		checkHas(t, c.list, c.minute, c.want)
	}
}

func checkCount(t *testing.T, list []impl.Window, want int) {
	t.Helper()
	if got := impl.CountMinutes(list); got != want {
		t.Errorf("CountMinutes(%v) = %d, want %d", list, got, want)
	}
}

func TestCountMinutes(t *testing.T) {
	checkCount(t, nil, 0)
	checkCount(t, []impl.Window{}, 0)
	checkCount(t, windowsOf(0, 0), 1)
	checkCount(t, windowsOf(2880, 2880), 1)
	checkCount(t, windowsOf(0, 2880), 2881)
	checkCount(t, windowsOf(0, 9, 50, 60, 2875, 2880), 27)
	checkCount(t, everySecond(0), 1441)
	checkCount(t, everySecond(1), 1440)
	for _, list := range goodWindows() {
		count := 0
		for _, in := range minutesIn(list) {
			if in {
				count++
			}
		}
		checkCount(t, list, count)
		checkCount(t, impl.OtherWindows(list), 2881-count)
	}
	for _, list := range badWindows() {
		checkCount(t, list, -1)
	}
}

func checkNext(t *testing.T, list []impl.Window, minute int, want int) {
	t.Helper()
	if got := impl.NextMinute(list, minute); got != want {
		t.Errorf("NextMinute(%v, %d) = %d, want %d", list, minute, got, want)
	}
}

func TestNextMinute(t *testing.T) {
	three := windowsOf(4, 9, 50, 60, 2870, 2875)
	for _, c := range [][2]int{
		{math.MinInt, 4}, {-2881, 4}, {-1, 4}, {0, 4}, {3, 4}, {4, 4}, {5, 5}, {9, 9}, {10, 50}, {49, 50}, {50, 50}, {60, 60}, {61, 2870}, {2869, 2870}, {2870, 2870}, {2875, 2875},
		{2876, -1}, {2880, -1}, {2881, -1}, {math.MaxInt, -1},
	} {
		checkNext(t, three, c[0], c[1])
	}
	for _, c := range [][2]int{{math.MinInt, 0}, {-1, 0}, {0, 0}, {1, 1}, {2879, 2879}, {2880, 2880}, {2881, -1}, {math.MaxInt, -1}} {
		checkNext(t, windowsOf(0, 2880), c[0], c[1])
	}
	for _, minute := range append(beyondTime(), 0, 1, 700, 2880) {
		checkNext(t, nil, minute, -1)
		checkNext(t, []impl.Window{}, minute, -1)
	}
}

func TestNextMinuteAfterEveryMinute(t *testing.T) {
	for _, list := range goodWindows() {
		next := -1
		for minute, in := range slices.Backward(minutesIn(list)) {
			if in {
				next = minute
			}
			checkNext(t, list, minute, next)
		}
		for _, minute := range beyondTime() {
			if minute < 0 {
				checkNext(t, list, minute, next)
			} else {
				checkNext(t, list, minute, -1)
			}
		}
	}
}

func TestNextMinuteRefuses(t *testing.T) {
	for _, list := range badWindows() {
		for _, minute := range append(beyondTime(), 0, 3, 4, 7, 55, 2880) {
			checkNext(t, list, minute, -1)
		}
	}
}
