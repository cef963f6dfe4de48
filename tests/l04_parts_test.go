package tests

import (
	"slices"
	"testing"

	"loop.example/g00831/impl"
)

func checkCommon(t *testing.T, a []impl.Window, b []impl.Window, want []impl.Window) {
	t.Helper()
	checkWindows(t, impl.CommonWindows(a, b), want, "CommonWindows", a, b)
	checkWindows(t, impl.CommonWindows(b, a), want, "CommonWindows", b, a)
}

func TestCommonWindows(t *testing.T) {
	three := windowsOf(0, 9, 50, 60, 2875, 2880)
	all := windowsOf(0, 2880)
	for _, c := range []struct{ a, b, want []impl.Window }{
		{nil, nil, nil}, {nil, all, nil}, {[]impl.Window{}, three, nil}, {all, all, all}, {all, three, three}, {three, three, three},
		{three, windowsOf(5, 55), windowsOf(5, 9, 50, 55)},
		{three, windowsOf(10, 49), nil}, {three, windowsOf(9, 50), windowsOf(9, 9, 50, 50)}, {three, windowsOf(61, 2874), nil}, {three, windowsOf(60, 2875), windowsOf(60, 60, 2875, 2875)},
		{three, windowsOf(52, 53, 55, 55, 57, 58), windowsOf(52, 53, 55, 55, 57, 58)},
		{three, windowsOf(8, 52, 54, 2876), windowsOf(8, 9, 50, 52, 54, 60, 2875, 2876)},
		{three, windowsOf(0, 0, 2880, 2880), windowsOf(0, 0, 2880, 2880)},
		{windowsOf(0, 4, 6, 9), windowsOf(5, 5), nil},
		{windowsOf(0, 4), windowsOf(5, 9), nil}, {windowsOf(0, 4), windowsOf(4, 9), windowsOf(4, 4)}, {windowsOf(0, 4), windowsOf(6, 9), nil},
		{windowsOf(0, 4, 6, 9), windowsOf(4, 4, 6, 6), windowsOf(4, 4, 6, 6)},
		{everySecond(0), everySecond(1), nil}, {everySecond(0), all, everySecond(0)},
	} {
		checkCommon(t, c.a, c.b, c.want)
	}
}

func TestCommonWindowsOfEveryPair(t *testing.T) {
	lists := goodWindows()
	for _, list := range listsOf([]int{0, 1, 3, 5, 2880}, 2) {
		if slices.Equal(list, slowWindows(minutesIn(list))) {
			lists = append(lists, list)
		}
	}
	minutes := make([][]bool, len(lists))
	for i, list := range lists {
		minutes[i] = minutesIn(list)
	}
	for i, a := range lists {
		for k, b := range lists {
			both := make([]bool, 2881)
			for minute := range both {
				both[minute] = minutes[i][minute] && minutes[k][minute]
			}
			checkCommon(t, a, b, slowWindows(both))
		}
	}
}

func TestCommonWindowsRefuses(t *testing.T) {
	for _, bad := range badWindows() {
		checkCommon(t, bad, bad, nil)
		for _, good := range goodWindows() {
			checkCommon(t, bad, good, nil)
		}
	}
}

func TestOtherWindows(t *testing.T) {
	for _, c := range []struct{ list, want []impl.Window }{
		{nil, windowsOf(0, 2880)}, {[]impl.Window{}, windowsOf(0, 2880)}, {windowsOf(0, 2880), nil},
		{windowsOf(0, 0), windowsOf(1, 2880)}, {windowsOf(2880, 2880), windowsOf(0, 2879)}, {windowsOf(1, 2879), windowsOf(0, 0, 2880, 2880)},
		{windowsOf(0, 2879), windowsOf(2880, 2880)}, {windowsOf(1, 2880), windowsOf(0, 0)}, {windowsOf(700, 700), windowsOf(0, 699, 701, 2880)},
		{windowsOf(0, 9, 50, 60, 2875, 2880), windowsOf(10, 49, 61, 2874)}, {windowsOf(0, 4, 6, 7), windowsOf(5, 5, 8, 2880)},
		{everySecond(0), everySecond(1)}, {everySecond(1), everySecond(0)},
	} {
		checkWindows(t, impl.OtherWindows(c.list), c.want, "OtherWindows", c.list)
	}
	for _, bad := range badWindows() {
		checkWindows(t, impl.OtherWindows(bad), nil, "OtherWindows", bad)
	}
}

func TestOtherWindowsAreTheRest(t *testing.T) {
	for _, list := range goodWindows() {
		minutes := minutesIn(list)
		for minute, in := range minutes {
			minutes[minute] = !in
		}
		other := impl.OtherWindows(list)
		checkWindows(t, other, slowWindows(minutes), "OtherWindows", list)
		checkWindows(t, impl.OtherWindows(other), list, "OtherWindows", other)
		checkCommon(t, list, other, nil)
		checkWindows(t, impl.GatherWindows(append(other, list...)), windowsOf(0, 2880), "both", list)
	}
}

func TestShrinkWindows(t *testing.T) {
	three := windowsOf(0, 9, 50, 60, 2875, 2880)
	for _, c := range []struct {
		list []impl.Window
		n    int
		want []impl.Window
	}{
		{nil, 0, nil}, {nil, 2880, nil}, {[]impl.Window{}, 5, nil},
		{three, 0, three}, {three, 1, windowsOf(0, 8, 50, 59, 2875, 2879)}, {three, 4, windowsOf(0, 5, 50, 56, 2875, 2876)},
		{three, 5, windowsOf(0, 4, 50, 55, 2875, 2875)}, {three, 6, windowsOf(0, 3, 50, 54)},
		{three, 8, windowsOf(0, 1, 50, 52)}, {three, 9, windowsOf(0, 0, 50, 51)}, {three, 10, windowsOf(50, 50)}, {three, 11, nil}, {three, 2880, nil},
		{windowsOf(0, 2880), 2880, windowsOf(0, 0)}, {windowsOf(0, 2880), 2879, windowsOf(0, 1)}, {windowsOf(0, 2879), 2880, nil}, {windowsOf(1, 2880), 2880, nil},
		{windowsOf(7, 7), 0, windowsOf(7, 7)}, {windowsOf(7, 7), 1, nil}, {windowsOf(2880, 2880), 0, windowsOf(2880, 2880)},
		{windowsOf(0, 0, 2, 4, 6, 6, 8, 10), 2, windowsOf(2, 2, 8, 8)},
	} {
		checkWindows(t, impl.ShrinkWindows(c.list, c.n), c.want, "ShrinkWindows", c.list, c.n)
	}
}

func TestShrinkWindowsRefuses(t *testing.T) {
	for _, list := range goodWindows() {
		for _, n := range beyondTime() {
			checkWindows(t, impl.ShrinkWindows(list, n), nil, "ShrinkWindows", list, n)
		}
	}
	for _, list := range badWindows() {
		for _, n := range append(beyondTime(), 0, 1, 9, 2879, 2880) {
			checkWindows(t, impl.ShrinkWindows(list, n), nil, "ShrinkWindows", list, n)
		}
	}
}

// slowStarts wants every minute of a span of n more minutes to lie in the list.
func slowStarts(minutes []bool, n int) []bool {
	starts := make([]bool, 2881)
	run := 0
	for minute := 2880; minute >= 0; minute-- {
		run++
		if !minutes[minute] {
			run = 0
		}
		starts[minute] = run > n
	}
	return starts
}

func TestShrinkWindowsForEveryTime(t *testing.T) {
	for _, list := range goodWindows() {
		minutes := minutesIn(list)
		for n := range 2881 {
			checkWindows(t, impl.ShrinkWindows(list, n), slowWindows(slowStarts(minutes, n)), "ShrinkWindows", list, n)
		}
	}
}

func TestResultsOfWindowsAreValid(t *testing.T) {
	for _, list := range goodWindows() {
		checkWindowsOk(t, impl.OtherWindows(list), true)
		for _, n := range []int{0, 1, 2, 10, 1439, 2880} {
			checkWindowsOk(t, impl.ShrinkWindows(list, n), true)
		}
		for _, other := range goodWindows() {
			checkWindowsOk(t, impl.CommonWindows(list, other), true)
		}
	}
}
