package tests

import (
	"math"
	"testing"

	"loop.example/g00831/impl"
)

func checkFree(t *testing.T, berths []impl.Berth, stays []impl.Stay, berth int, want []impl.Window) {
	t.Helper()
	checkWindows(t, impl.FreeTimes(berths, stays, berth), want, "FreeTimes", berths, stays, berth)
}

func checkLoad(t *testing.T, stays []impl.Stay, berth int, want int) {
	t.Helper()
	if got := impl.BerthLoad(stays, berth); got != want {
		t.Errorf("BerthLoad(%+v, %d) is %d, want %d", stays, berth, got, want)
	}
}

// freeSlowly looks at every minute by itself.
func freeSlowly(stays []impl.Stay, berth int) []impl.Window {
	free := make([]bool, 2881)
	for minute := range free {
		free[minute] = true
		for _, s := range stays {
			if s.Berth == berth && s.From <= minute && minute < s.To {
				free[minute] = false
			}
		}
	}
	return slowWindows(free)
}

func loadSlowly(stays []impl.Stay, berth int) int {
	load := 0
	for _, s := range stays {
		if s.Berth != berth || s.From < 0 || s.To > 2880 {
			continue
		}
		for minute := s.From; minute < s.To; minute++ {
			load++
		}
	}
	return load
}

func TestFreeTimes(t *testing.T) {
	berths := wideBerths(2)
	stays := staysOf(stayOf(0, 0, 100, 200), stayOf(1, 1, 150, 250), stayOf(2, 0, 300, 310))
	checkFree(t, berths, stays, 0, windowsOf(0, 99, 200, 299, 310, 2880))
	checkFree(t, berths, stays, 1, windowsOf(0, 149, 250, 2880))
	checkFree(t, berths, nil, 0, windowsOf(0, 2880))
	checkFree(t, berths, []impl.Stay{}, 1, windowsOf(0, 2880))
	checkFree(t, berths, staysOf(stayOf(0, 0, 0, 100)), 0, windowsOf(100, 2880))
	checkFree(t, berths, staysOf(stayOf(0, 0, 100, 2880)), 0, windowsOf(0, 99, 2880, 2880))
	checkFree(t, berths, staysOf(stayOf(0, 0, 0, 2880)), 0, windowsOf(2880, 2880))
	checkFree(t, berths, staysOf(stayOf(0, 0, 1, 2880)), 0, windowsOf(0, 0, 2880, 2880))
	checkFree(t, berths, staysOf(stayOf(0, 0, 0, 1)), 0, windowsOf(1, 2880))
	checkFree(t, berths, staysOf(stayOf(0, 0, 2879, 2880)), 0, windowsOf(0, 2878, 2880, 2880))
}

// The stays touch, overlap, lie within each other, and come in any order.
func TestFreeTimesOfManyStays(t *testing.T) {
	berths := wideBerths(1)
	for _, order := range ordersOf([]int{0, 1, 2, 3, 4}) {
		stays := staysOf(stayOf(0, 0, 100, 200), stayOf(1, 0, 200, 300), stayOf(2, 0, 250, 320), stayOf(3, 0, 110, 190), stayOf(0, 0, 321, 400))
		var list []impl.Stay
		for _, i := range order {
			list = append(list, stays[i])
		}
		checkFree(t, berths, list, 0, windowsOf(0, 99, 320, 320, 400, 2880))
		checkFree(t, berths, list[:2], 0, freeSlowly(list[:2], 0))
		checkFree(t, berths, append(list, stayOf(0, 0, 0, 2880)), 0, windowsOf(2880, 2880))
	}
	for n := range 40 {
		checkFree(t, wideBerths(4), someStays(n), 1, freeSlowly(someStays(n), 1))
		checkFree(t, berths, busyStays(n), 0, freeSlowly(busyStays(n), 0))
	}
}

// More than MaxStays stays, and ships that do not exist, change nothing.
func TestFreeTimesOfMoreThanMaxStays(t *testing.T) {
	var stays []impl.Stay
	for i := range 1000 {
		stays = append(stays, stayOf(-i, i%2, 2*i, 2*i+1))
	}
	checkFree(t, wideBerths(2), stays, 0, freeSlowly(stays, 0))
	checkFree(t, wideBerths(2), stays, 1, freeSlowly(stays, 1))
	for _, ship := range numbersAround(6) {
		checkFree(t, wideBerths(2), staysOf(stayOf(ship, 0, 10, 20)), 0, windowsOf(0, 9, 20, 2880))
	}
}

// A stay occupies the minutes from its From up to its To, even where these are no minutes; one that is not in order occupies none.
func TestFreeTimesOfEveryTime(t *testing.T) {
	checkFree(t, wideBerths(1), staysOf(stayOf(0, 0, -100, 50)), 0, windowsOf(50, 2880))
	checkFree(t, wideBerths(1), staysOf(stayOf(0, 0, 50, 3000)), 0, windowsOf(0, 49))
	checkFree(t, wideBerths(1), staysOf(stayOf(0, 0, 0, 2881)), 0, nil)
	checkFree(t, wideBerths(1), staysOf(stayOf(0, 0, 1, 2881)), 0, windowsOf(0, 0))
	checkFree(t, wideBerths(1), staysOf(stayOf(0, 0, math.MinInt, math.MaxInt)), 0, nil)
	checkFree(t, wideBerths(1), staysOf(stayOf(0, 0, math.MaxInt, math.MinInt)), 0, windowsOf(0, 2880))
	checkFree(t, wideBerths(1), staysOf(stayOf(0, 0, math.MinInt, math.MinInt)), 0, windowsOf(0, 2880))
	for _, from := range minutesAround() {
		for _, to := range minutesAround() {
			stays := staysOf(stayOf(0, 0, from, to))
			checkFree(t, wideBerths(1), stays, 0, freeSlowly(stays, 0))
			stays = append(stays, stayOf(0, 0, 20, 40), stayOf(0, 1, 0, 2880), stayOf(0, 0, to, from))
			checkFree(t, wideBerths(1), stays, 0, freeSlowly(stays, 0))
		}
	}
}

func TestFreeTimesOfEveryBerth(t *testing.T) {
	var stays []impl.Stay
	for _, berth := range numbersAround(4) {
		stays = append(stays, stayOf(0, berth, 500, 600))
	}
	for n := range 5 {
		for _, berth := range numbersAround(4) {
			if !within(berth, 0, n-1) {
				checkFree(t, wideBerths(n), nil, berth, nil)
				checkFree(t, wideBerths(n), stays, berth, nil)
				checkFree(t, someBerths(n), staysOf(stayOf(0, 0, 10, 20)), berth, nil)
				continue
			}
			checkFree(t, wideBerths(n), nil, berth, windowsOf(0, 2880))
			checkFree(t, someBerths(n), stays, berth, windowsOf(0, 499, 600, 2880))
			checkFree(t, wideBerths(n), staysOf(stayOf(0, berth+1, 0, 2880), stayOf(0, berth-1, 0, 2880), stayOf(0, ^berth, 0, 2880)), berth, windowsOf(0, 2880))
		}
	}
}

// Even a berth with no water and no room is one that exists.
func TestFreeTimesOfGoodQuays(t *testing.T) {
	for _, berths := range goodQuays() {
		for berth := range berths {
			checkFree(t, berths, nil, berth, windowsOf(0, 2880))
			checkFree(t, berths, staysOf(stayOf(9, berth, 7, 9)), berth, windowsOf(0, 6, 9, 2880))
		}
	}
}

func TestFreeTimesRefuse(t *testing.T) {
	for _, berths := range badQuays() {
		for _, berth := range numbersAround(4) {
			checkFree(t, berths, nil, berth, nil)
			checkFree(t, berths, someStays(5), berth, nil)
		}
	}
}

// The stays leave the other times free: a stay can be added just where all of its minutes are free.
func TestStaysLeaveTheOtherTimesFree(t *testing.T) {
	berths, fleet := wideBerths(1), someShips(6)
	stays := staysOf(stayOf(0, 0, 5, 8), stayOf(1, 0, 2870, 2880), stayOf(2, 0, 8, 10), stayOf(3, 0, 14, 2860), stayOf(4, 0, 0, 2))
	free := impl.FreeTimes(berths, stays, 0)
	checkWindows(t, free, windowsOf(2, 4, 10, 13, 2860, 2869, 2880, 2880))
	minutes := minutesIn(free)
	for _, from := range []int{0, 1, 2, 3, 4, 5, 8, 9, 10, 11, 13, 14, 15, 2859, 2860, 2865, 2870, 2879} {
		for to := from + 1; to <= 2880; to++ {
			all := true
			for minute := from; minute < to; minute++ {
				all = all && minutes[minute]
			}
			checkStays(t, berths, fleet, append(staysOf(stayOf(5, 0, from, to)), stays...), all)
			if !all {
				break
			}
		}
	}
}

func TestBerthLoad(t *testing.T) {
	stays := staysOf(stayOf(0, 0, 100, 200), stayOf(1, 1, 150, 250), stayOf(2, 0, 300, 310), stayOf(2, 0, 305, 306))
	checkLoad(t, stays, 0, 111)
	checkLoad(t, stays, 1, 100)
	checkLoad(t, stays, 2, 0)
	checkLoad(t, stays, -1, 0)
	for _, berth := range numbersAround(4) {
		checkLoad(t, nil, berth, 0)
		checkLoad(t, []impl.Stay{}, berth, 0)
		checkLoad(t, staysOf(stayOf(0, berth, 0, 2880)), berth, 2880)
		checkLoad(t, staysOf(stayOf(0, berth, 0, 2880), stayOf(1, berth, 0, 2880)), berth, 5760)
		checkLoad(t, staysOf(stayOf(-5, berth, 7, 8), stayOf(math.MaxInt, berth, 7, 8)), berth, 2)
		checkLoad(t, staysOf(stayOf(0, berth, 0, 2880)), ^berth, 0)
	}
}

func TestBerthLoadOfEveryTime(t *testing.T) {
	for _, from := range minutesAround() {
		for _, to := range minutesAround() {
			want := 0
			if from >= 0 && from < to && to <= 2880 {
				want = to - from
			}
			checkLoad(t, staysOf(stayOf(0, 2, from, to)), 2, want)
			checkLoad(t, staysOf(stayOf(0, 2, 10, 15), stayOf(0, 2, from, to), stayOf(0, 1, from, to), stayOf(0, 2, 0, 2)), 2, want+7)
		}
	}
}

func TestBerthLoadOfManyStays(t *testing.T) {
	for seed := range 50 {
		for n := range 40 {
			stays := mixedStays(seed, n)
			for berth := range 5 {
				checkLoad(t, stays, berth, loadSlowly(stays, berth))
			}
		}
	}
}
