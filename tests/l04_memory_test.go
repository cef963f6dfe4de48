package tests

import (
	"slices"
	"testing"

	"loop.example/g00831/impl"
)

// spoilWindows changes a list and the room behind it.
func spoilWindows(list []impl.Window) {
	list = list[:cap(list)]
	for i := range list {
		list[i] = impl.Window{From: -77, To: -78}
	}
}

// windowResults calls every function whose result is a list of windows.
func windowResults(a []impl.Window, b []impl.Window, f impl.Forecast) [][]impl.Window {
	return [][]impl.Window{
		impl.GatherWindows(a), impl.CommonWindows(a, b), impl.CommonWindows(a, a), impl.OtherWindows(a), impl.ShrinkWindows(a, 0), impl.ShrinkWindows(a, 3),
		impl.LowWindows(f, 0), impl.HighWindows(f, 0),
	}
}

func copiesOf(lists [][]impl.Window) [][]impl.Window {
	var copies [][]impl.Window
	for _, list := range lists {
		copies = append(copies, slices.Clone(list))
	}
	return copies
}

func checkKept(t *testing.T, got [][]impl.Window, want [][]impl.Window, what string) {
	t.Helper()
	if !slices.EqualFunc(got, want, slices.Equal) {
		t.Errorf("%s: %v, want %v", what, got, want)
	}
}

func TestWindowResultsAreNew(t *testing.T) {
	for _, list := range goodWindows() {
		a, b := slices.Clone(list), windowsOf(0, 2880)
		f := forecastOf(fullTide(), surge(0, -20, 20), surge(600, -30, 10))
		first := windowResults(a, b, f)
		kept := copiesOf(first)
		for _, result := range windowResults(a, b, f) {
			spoilWindows(result)
		}
		checkKept(t, [][]impl.Window{a, b}, [][]impl.Window{list, windowsOf(0, 2880)}, "after a change of the results, the arguments")
		checkKept(t, first, kept, "after a change of later results")
		for i, result := range first {
			spoilWindows(result)
			checkKept(t, first[i+1:], kept[i+1:], "after a change of another result")
		}
		first = windowResults(a, b, f)
		spoilWindows(a)
		spoilWindows(b)
		spoil(f)
		checkKept(t, first, kept, "after a change of the arguments")
	}
}

// withRoom gives a list with something of its own behind its end, and the whole of it.
func withRoom(list []impl.Window) ([]impl.Window, []impl.Window) {
	whole := append(slices.Clone(list), windowsOf(2880, 0, -1, 1, 7, 7)...)
	return whole[:len(list)], whole
}

func TestWindowArgumentsAreUnchanged(t *testing.T) {
	for _, list := range append(goodWindows(), badWindows()...) {
		for _, other := range [][]impl.Window{nil, windowsOf(0, 2880), windowsOf(5, 55), windowsOf(9, 3), list} {
			a, wholeA := withRoom(list)
			b, wholeB := withRoom(other)
			_, beforeA := withRoom(list)
			_, beforeB := withRoom(other)
			windowResults(a, b, impl.Forecast{})
			windowResults(b, a, impl.Forecast{})
			for _, minute := range []int{-1, 0, 7, 2880} {
				impl.WindowsOk(a)
				impl.HasMinute(a, minute)
				impl.CountMinutes(a)
				impl.NextMinute(a, minute)
			}
			checkKept(t, [][]impl.Window{wholeA, wholeB}, [][]impl.Window{beforeA, beforeB}, "the lists and the room behind them")
		}
	}
}

func TestForecastsOfWindowsAreUnchanged(t *testing.T) {
	for _, f := range append(goodForecasts(), badForecasts()...) {
		parts := append(slices.Clone(f.Tide.Parts), part(11, 12, 13))
		surges := append(slices.Clone(f.Surges), surge(14, 15, 16))
		before := copyOfForecast(forecastOf(impl.Tide{Parts: parts}, surges...))
		f.Tide.Parts, f.Surges = parts[:len(f.Tide.Parts)], surges[:len(f.Surges)]
		impl.LowWindows(f, 0)
		impl.HighWindows(f, 0)
		if !slices.Equal(parts, before.Tide.Parts) || !slices.Equal(surges, before.Surges) {
			t.Errorf("the lists or the room behind them became %v and %v, from %v", parts, surges, before)
		}
	}
}
