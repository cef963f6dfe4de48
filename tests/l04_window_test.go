package tests

import (
	"math"
	"slices"
	"testing"

	"loop.example/g00831/impl"
)

// windowsOf takes From and To of each window in turn.
func windowsOf(ends ...int) []impl.Window {
	var list []impl.Window
	for i := 0; i+1 < len(ends); i += 2 {
		list = append(list, impl.Window{From: ends[i], To: ends[i+1]})
	}
	return list
}

// everySecond gives as many windows as there can be, each of one minute.
func everySecond(from int) []impl.Window {
	var list []impl.Window
	for minute := from; minute <= 2880; minute += 2 {
		list = append(list, impl.Window{From: minute, To: minute})
	}
	return list
}

func goodWindows() [][]impl.Window {
	return [][]impl.Window{
		nil, {},
		windowsOf(0, 2880), windowsOf(0, 0), windowsOf(2880, 2880), windowsOf(700, 700), windowsOf(0, 2879), windowsOf(1, 2880), windowsOf(1, 2879), windowsOf(5, 55),
		windowsOf(0, 9, 50, 60, 2875, 2880),
		windowsOf(0, 4, 6, 7), windowsOf(0, 4, 7, 7), windowsOf(0, 4, 2880, 2880), windowsOf(0, 0, 2, 2), windowsOf(2878, 2878, 2880, 2880), windowsOf(0, 0, 2880, 2880),
		windowsOf(0, 1438, 1440, 2880), windowsOf(10, 20, 22, 31, 40, 40, 42, 50, 100, 1000, 1002, 1003, 2000, 2800),
		everySecond(0), everySecond(1),
	}
}

// badWindows gives lists that are not windows: by one window at each place, by the order, or by what lies between two of them.
func badWindows() [][]impl.Window {
	list := [][]impl.Window{
		windowsOf(0, 4, 5, 6), windowsOf(0, 4, 4, 6), windowsOf(0, 4, 2, 6), windowsOf(0, 4, 0, 4), windowsOf(0, 4, 0, 6), windowsOf(0, 9, 4, 6), windowsOf(7, 7, 7, 7),
		windowsOf(6, 8, 0, 4), windowsOf(5, 8, 0, 4), windowsOf(4, 8, 0, 4), windowsOf(2880, 2880, 0, 0), windowsOf(0, 2880, 0, 2880), windowsOf(2879, 2879, 2880, 2880),
		windowsOf(0, 4, 6, 9, 11, 20, 21, 30), windowsOf(0, 4, 6, 9, 9, 20, 22, 30), windowsOf(0, 4, 10, 20, 6, 8), windowsOf(10, 20, 0, 4, 30, 40),
		append(everySecond(0), impl.Window{From: 2880, To: 2880}), slices.Repeat(windowsOf(3, 5), 40),
	}
	wrong := windowsOf(3, 2, 700, 0, 2880, 0, 2880, 2879, -1, 5, -1, -1, -9, -3, 2870, 2881, 2881, 2881, -1, 2881, 4000, 5000,
		math.MinInt, 5, 5, math.MaxInt, math.MinInt, math.MaxInt, math.MaxInt, math.MinInt, math.MaxInt, math.MaxInt, math.MinInt, math.MinInt)
	for _, w := range wrong {
		list = append(list, []impl.Window{w})
		for i := range 3 {
			good := windowsOf(0, 9, 50, 60, 2875, 2880)
			list = append(list, slices.Replace(slices.Clone(good), i, i+1, w))
			list = append(list, slices.Insert(good, i, w))
		}
	}
	return list
}

// minutesIn looks at every minute by itself: whether it lies in an element of the list.
func minutesIn(list []impl.Window) []bool {
	minutes := make([]bool, 2881)
	for minute := range minutes {
		for _, w := range list {
			minutes[minute] = minutes[minute] || minute >= w.From && minute <= w.To
		}
	}
	return minutes
}

// slowWindows looks for both ends of a window by the minutes beside it.
func slowWindows(minutes []bool) []impl.Window {
	var list []impl.Window
	for minute, in := range minutes {
		if in && (minute == 0 || !minutes[minute-1]) {
			list = append(list, impl.Window{From: minute})
		}
		if in && (minute == 2880 || !minutes[minute+1]) {
			list[len(list)-1].To = minute
		}
	}
	return list
}

func checkWindows(t *testing.T, got []impl.Window, want []impl.Window, what ...any) {
	t.Helper()
	if !slices.Equal(got, want) {
		t.Errorf("%v: %v, want %v", what, got, want)
	}
}

func checkWindowsOk(t *testing.T, list []impl.Window, want bool) {
	t.Helper()
	if got := impl.WindowsOk(list); got != want {
		t.Errorf("WindowsOk(%v) is %v", list, got)
	}
}

// listsOf gives all lists of n windows with these ends, From greater than To included.
func listsOf(ends []int, n int) [][]impl.Window {
	var lists [][]impl.Window
	for _, l := range beginsOf(ends, 2*n) {
		lists = append(lists, windowsOf(l...))
	}
	return lists
}

func TestWindowsOk(t *testing.T) {
	for _, list := range goodWindows() {
		checkWindowsOk(t, list, true)
	}
	for _, list := range badWindows() {
		checkWindowsOk(t, list, false)
	}
}

func TestWindowsOkOfEveryWindow(t *testing.T) {
	ends := append(beyondTime(), 0, 1, 2, 700, 1440, 2878, 2879, 2880)
	for _, from := range ends {
		for _, to := range ends {
			checkWindowsOk(t, windowsOf(from, to), from >= 0 && from <= to && to <= 2880)
		}
	}
}

func TestWindowsOkOfEveryPair(t *testing.T) {
	for _, list := range listsOf([]int{math.MinInt, -2, -1, 0, 1, 2, 3, 4, 2880, 2881, math.MaxInt}, 2) {
		a, b := list[0], list[1]
		want := a.From >= 0 && a.From <= a.To && b.From <= b.To && b.To <= 2880 && a.To < b.From && b.From-a.To != 1
		checkWindowsOk(t, list, want)
	}
}

// A list consists of windows if its minutes have no other one.
func TestWindowsOkOfEveryThree(t *testing.T) {
	for _, ends := range [][]int{{0, 1, 2, 3, 5}, {2875, 2877, 2878, 2880, 2881}} {
		for _, list := range listsOf(ends, 3) {
			beyond := slices.ContainsFunc(list, func(w impl.Window) bool { return w.To > 2880 })
			checkWindowsOk(t, list, !beyond && slices.Equal(list, slowWindows(minutesIn(list))))
		}
	}
}

func TestWindowsOkOfEveryDistance(t *testing.T) {
	for to := range 2880 {
		for _, by := range []int{-1, 0, 1, 2, 3} {
			if from := to + by; from >= 0 && from <= 2880 {
				checkWindowsOk(t, windowsOf(0, to, from, 2880), by >= 2)
			}
		}
	}
}
