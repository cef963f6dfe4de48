package tests

import (
	"math"
	"slices"
	"testing"

	"loop.example/g00831/impl"
)

func checkFound(t *testing.T, berths []impl.Berth, fleet []impl.Ship, stays []impl.Stay, s impl.Stay, want int) {
	t.Helper()
	if got := impl.FindBerth(berths, fleet, stays, s.Ship, s.From, s.To); got != want {
		t.Errorf("FindBerth(%+v, %+v, %+v, %d, %d, %d) is %d, want %d", berths, fleet, stays, s.Ship, s.From, s.To, got, want)
	}
}

// sizedQuay gives a small, a deep, a long and a large berth, and ships that are as large as these.
func sizedQuay() ([]impl.Berth, []impl.Ship) {
	berths := []impl.Berth{berthOf("small", 100, 500), berthOf("deep", 100, 900), berthOf("long", 200, 500), berthOf("large", 200, 900)}
	fleet := []impl.Ship{shipOf("a", 100, 500, 0, 1), shipOf("b", 100, 900, 0, 1), shipOf("c", 200, 500, 0, 1), shipOf("d", 200, 900, 0, 1), shipOf("e", 201, 900, 0, 1), shipOf("f", 200, 901, 0, 1)}
	return berths, fleet
}

func TestFindBerth(t *testing.T) {
	berths, fleet := wideBerths(3), someShips(6)
	stays := staysOf(stayOf(0, 0, 100, 200), stayOf(1, 1, 150, 250))
	checkFound(t, berths, fleet, stays, stayOf(2, 0, 0, 100), 0)
	checkFound(t, berths, fleet, stays, stayOf(2, 0, 0, 101), 1)
	checkFound(t, berths, fleet, stays, stayOf(2, 0, 100, 150), 1)
	checkFound(t, berths, fleet, stays, stayOf(2, 0, 100, 151), 2)
	checkFound(t, berths, fleet, stays, stayOf(2, 0, 199, 300), 2)
	checkFound(t, berths, fleet, stays, stayOf(2, 0, 200, 300), 0)
	checkFound(t, berths, fleet, append(stays, stayOf(3, 2, 0, 2880)), stayOf(2, 0, 199, 200), -1)
	checkFound(t, berths, fleet, append(stays, stayOf(3, 2, 0, 2880)), stayOf(2, 0, 250, 251), 0)
	checkFound(t, berths[:1], fleet, stays[:1], stayOf(2, 0, 150, 160), -1)
	checkFound(t, nil, fleet, nil, stayOf(0, 0, 150, 160), -1)
	checkFound(t, berths, nil, nil, stayOf(0, 0, 150, 160), -1)
}

func TestFindBerthThatFits(t *testing.T) {
	berths, fleet := sizedQuay()
	for ship, want := range []int{0, 1, 2, 3, -1, -1} {
		checkFound(t, berths, fleet, nil, stayOf(ship, 0, 0, 2880), want)
		checkFound(t, berths, fleet, staysOf(stayOf(ship^1, 3, 0, 10)), stayOf(ship, 0, 10, 20), want)
	}
	checkFound(t, berths, fleet, staysOf(stayOf(1, 1, 0, 10)), stayOf(0, 0, 0, 10), 0)
	checkFound(t, berths, fleet, staysOf(stayOf(1, 3, 0, 10), stayOf(2, 2, 0, 10)), stayOf(0, 0, 0, 10), 0)
	slices.Reverse(berths)
	for ship, want := range []int{0, 0, 0, 0, -1, -1} {
		checkFound(t, berths, fleet, nil, stayOf(ship, 0, 0, 2880), want)
	}
	checkFound(t, berths, fleet, staysOf(stayOf(3, 0, 0, 10)), stayOf(0, 0, 9, 20), 1)
	checkFound(t, berths, fleet, staysOf(stayOf(3, 0, 0, 10)), stayOf(1, 0, 9, 20), 2)
	checkFound(t, berths, fleet, staysOf(stayOf(3, 0, 0, 10), stayOf(0, 1, 0, 10)), stayOf(2, 0, 9, 20), -1)
	checkFound(t, berths, fleet, staysOf(stayOf(3, 0, 0, 10), stayOf(0, 1, 0, 9)), stayOf(2, 0, 9, 20), 1)
}

// A ship that stays elsewhere at that time finds no berth, however many are free.
func TestFindBerthOfOneShip(t *testing.T) {
	stays := staysOf(stayOf(0, 3, 100, 200))
	for _, ends := range [][3]int{{0, 100, 0}, {0, 101, -1}, {100, 200, -1}, {150, 160, -1}, {199, 200, -1}, {199, 300, -1}, {200, 300, 0}, {0, 2880, -1}, {0, 1, 0}} {
		checkFound(t, wideBerths(4), someShips(2), stays, stayOf(0, 0, ends[0], ends[1]), ends[2])
		checkFound(t, wideBerths(4), someShips(2), stays, stayOf(1, 0, ends[0], ends[1]), 0)
	}
}

func TestFindBerthUpToMaxStays(t *testing.T) {
	for n := range 20 {
		want := 0
		if n >= 12 {
			want = -1
		}
		checkFound(t, wideBerths(4), someShips(6), someStays(n), stayOf(0, 0, 2000, 2100), want)
		checkFound(t, wideBerths(1), someShips(2), busyStays(n), stayOf(1, 0, 2640, 2880), want)
	}
}

func TestFindBerthOfEveryShip(t *testing.T) {
	for ships := range 7 {
		for _, ship := range numbersAround(ships) {
			want := -1
			if within(ship, 0, ships-1) {
				want = 0
			}
			checkFound(t, wideBerths(2), someShips(ships), nil, stayOf(ship, 0, 100, 200), want)
		}
	}
}

func TestFindBerthOfEveryTime(t *testing.T) {
	stays := staysOf(stayOf(1, 0, 20, 40), stayOf(2, 1, 2840, 2860))
	for _, from := range minutesAround() {
		for _, to := range minutesAround() {
			want, free := -1, -1
			if from >= 0 && from < to && to <= 2880 {
				free = 0
				switch {
				case to <= 20 || from >= 40:
					want = 0
				case to <= 2840 || from >= 2860:
					want = 1
				}
			}
			checkFound(t, wideBerths(2), someShips(3), stays, stayOf(0, 0, from, to), want)
			checkFound(t, wideBerths(2), someShips(3), nil, stayOf(0, 0, from, to), free)
		}
	}
}

// findSlowly tries all berths one after the other.
func findSlowly(berths []impl.Berth, fleet []impl.Ship, stays []impl.Stay, s impl.Stay) int {
	if !staysSlowly(berths, fleet, stays) {
		return -1
	}
	for s.Berth = 0; s.Berth < len(berths); s.Berth++ {
		if staysSlowly(berths, fleet, append(slices.Clone(stays), s)) {
			return s.Berth
		}
	}
	return -1
}

func TestFindBerthOfManyStays(t *testing.T) {
	var found [5]int
	for seed := range 500 {
		for n := 1; n < 7; n++ {
			for _, berths := range [][]impl.Berth{wideBerths(4), someBerths(4), wideBerths(3)} {
				all := mixedStays(seed, n)
				want := findSlowly(berths, someShips(6), all[1:], all[0])
				checkFound(t, berths, someShips(6), all[1:], all[0], want)
				found[want+1]++
			}
		}
	}
	for i, n := range found {
		if n < 10 {
			t.Errorf("%d was found %d times only", i-1, n)
		}
	}
}

// The stays are not valid for one reason, which does not concern the stay that is added.
func TestFindBerthRefuses(t *testing.T) {
	s := stayOf(5, 0, 1000, 1010)
	for _, stays := range [][]impl.Stay{
		staysOf(stayOf(-1, 0, 0, 10)), staysOf(stayOf(6, 0, 0, 10)), staysOf(stayOf(0, -1, 0, 10)), staysOf(stayOf(0, 4, 0, 10)),
		staysOf(stayOf(0, 0, -1, 10)), staysOf(stayOf(0, 0, 10, 10)), staysOf(stayOf(0, 0, 11, 10)), staysOf(stayOf(0, 0, 2880, 2881)),
		staysOf(stayOf(0, 0, 0, 10), stayOf(1, 0, 9, 20)), staysOf(stayOf(0, 0, 0, 10), stayOf(0, 1, 9, 20)),
		staysOf(stayOf(0, 0, math.MinInt, 10)), staysOf(stayOf(0, 0, 0, math.MaxInt)), someStays(13), someStays(100),
	} {
		checkFound(t, wideBerths(4), someShips(6), stays, s, -1)
	}
	for _, stays := range [][]impl.Stay{nil, someStays(3)} {
		for _, berths := range badQuays() {
			checkFound(t, berths, someShips(6), stays, s, -1)
		}
		for _, fleet := range badFleets() {
			checkFound(t, wideBerths(4), fleet, stays, stayOf(0, 0, 1000, 1010), -1)
		}
	}
	checkFound(t, someBerths(1), someShips(3), staysOf(stayOf(2, 0, 0, 10)), stayOf(0, 0, 1000, 1010), -1)
}
