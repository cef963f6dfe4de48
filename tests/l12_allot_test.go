package tests

import (
	"math"
	"slices"
	"testing"

	"loop.example/g00831/impl"
)

// withBerths gives the asks with these berths.
func withBerths(asks []impl.Stay, berths ...int) []impl.Stay {
	list := slices.Clone(asks)
	for i, berth := range berths {
		list[i].Berth = berth
	}
	return list
}

func checkAllotted(t *testing.T, berths []impl.Berth, fleet []impl.Ship, asks []impl.Stay, want ...int) {
	t.Helper()
	got, ok := impl.AllotBerths(berths, fleet, asks)
	if !ok || !slices.Equal(got, withBerths(asks, want...)) {
		t.Errorf("AllotBerths(%+v, %+v, %+v) is %+v, %v, want the berths %v", berths, fleet, asks, got, ok, want)
	}
}

func checkNotAllotted(t *testing.T, berths []impl.Berth, fleet []impl.Ship, asks []impl.Stay) {
	t.Helper()
	if got, ok := impl.AllotBerths(berths, fleet, asks); ok || len(got) > 0 {
		t.Errorf("AllotBerths(%+v, %+v, %+v) is %+v, %v", berths, fleet, asks, got, ok)
	}
}

func TestAllotBerths(t *testing.T) {
	berths, fleet := wideBerths(2), someShips(6)
	checkAllotted(t, berths, fleet, staysOf(stayOf(0, 0, 100, 200), stayOf(1, 0, 150, 250)), 0, 1)
	checkAllotted(t, berths, fleet, staysOf(stayOf(0, 0, 100, 200), stayOf(1, 0, 200, 250)), 0, 0)
	checkAllotted(t, berths, fleet, staysOf(stayOf(1, 0, 200, 250), stayOf(0, 0, 100, 201)), 0, 1)
	checkAllotted(t, berths, fleet, staysOf(stayOf(0, 0, 0, 2880), stayOf(1, 0, 0, 1440), stayOf(2, 0, 1440, 2880)), 0, 1, 1)
	checkNotAllotted(t, berths, fleet, staysOf(stayOf(0, 0, 0, 2880), stayOf(1, 0, 0, 1441), stayOf(2, 0, 1440, 2880)))
	checkNotAllotted(t, berths[:1], fleet, staysOf(stayOf(0, 0, 100, 200), stayOf(1, 0, 150, 250)))
	checkAllotted(t, wideBerths(4), fleet, staysOf(stayOf(0, 0, 5, 6), stayOf(1, 0, 5, 6), stayOf(2, 0, 5, 6), stayOf(3, 0, 5, 6)), 0, 1, 2, 3)
	checkNotAllotted(t, wideBerths(4), fleet, staysOf(stayOf(0, 0, 5, 6), stayOf(1, 0, 5, 6), stayOf(2, 0, 5, 6), stayOf(3, 0, 5, 6), stayOf(4, 0, 5, 6)))
}

func TestAllotBerthsWithoutAsks(t *testing.T) {
	for _, berths := range goodQuays() {
		for _, fleet := range goodFleets() {
			checkAllotted(t, berths, fleet, nil)
			checkAllotted(t, berths, fleet, []impl.Stay{})
		}
	}
	checkNotAllotted(t, nil, someShips(6), someStays(1))
	checkNotAllotted(t, wideBerths(4), nil, someStays(1))
}

func TestAllotBerthsOfEveryNumber(t *testing.T) {
	for n := range 20 {
		if n > 6 {
			checkNotAllotted(t, wideBerths(4), someShips(6), someStays(n))
			checkNotAllotted(t, wideBerths(1), someShips(1), busyStays(n))
			continue
		}
		checkAllotted(t, wideBerths(4), someShips(6), someStays(n), make([]int, n)...)
		checkAllotted(t, wideBerths(1), someShips(1), busyStays(n), make([]int, n)...)
	}
}

// The first free berth is the wrong one for a ship that a later one needs it for.
func TestAllotBerthsWhereTheFirstFails(t *testing.T) {
	berths, fleet := sizedQuay()
	slices.Reverse(berths)
	checkAllotted(t, berths, fleet, staysOf(stayOf(0, 0, 0, 10), stayOf(3, 0, 5, 20)), 1, 0)
	checkAllotted(t, berths, fleet, staysOf(stayOf(0, 0, 0, 10), stayOf(3, 0, 10, 20)), 0, 0)
	checkAllotted(t, berths, fleet, staysOf(stayOf(0, 0, 0, 10), stayOf(1, 0, 0, 10), stayOf(2, 0, 0, 10), stayOf(3, 0, 0, 10)), 3, 2, 1, 0)
	checkAllotted(t, berths, fleet, staysOf(stayOf(0, 0, 0, 10), stayOf(1, 0, 0, 10), stayOf(2, 0, 0, 10)), 0, 2, 1)
	checkAllotted(t, berths, fleet, staysOf(stayOf(0, 0, 0, 10), stayOf(2, 0, 0, 10), stayOf(1, 0, 0, 10)), 0, 1, 2)
	checkAllotted(t, berths[:2], fleet, staysOf(stayOf(0, 0, 0, 10), stayOf(2, 0, 20, 30), stayOf(0, 0, 30, 40), stayOf(0, 0, 25, 26), stayOf(1, 0, 0, 5), stayOf(3, 0, 30, 31)), 1, 0, 1, 1, 0, 0)
	checkNotAllotted(t, berths, fleet, staysOf(stayOf(3, 0, 0, 10), stayOf(3, 0, 5, 20)))
	checkNotAllotted(t, berths, fleet, staysOf(stayOf(0, 0, 0, 10), stayOf(4, 0, 50, 60)))
	checkNotAllotted(t, berths, fleet, staysOf(stayOf(5, 0, 50, 60)))
}

// The last ask alone settles the berth of the first one.
func TestAllotBerthsGoesBackToTheFirst(t *testing.T) {
	berths := []impl.Berth{berthOf("a", 200, 500), berthOf("b", 100, 500)}
	fleet := fleetOfLengths(100, 100, 100, 100, 100, 200)
	asks := staysOf(stayOf(0, 0, 0, 10), stayOf(1, 0, 10, 20), stayOf(2, 0, 20, 30), stayOf(3, 0, 30, 40), stayOf(4, 0, 40, 50), stayOf(5, 0, 0, 1))
	checkAllotted(t, berths, fleet, asks, 1, 0, 0, 0, 0, 0)
	asks[5].To = 50
	checkAllotted(t, berths, fleet, asks, 1, 1, 1, 1, 1, 0)
	asks[3].Ship = 5
	checkNotAllotted(t, berths, fleet, asks)
}

func TestAllotBerthsWithAnyBerthAsked(t *testing.T) {
	for _, a := range numbersAround(4) {
		for _, b := range numbersAround(4) {
			checkAllotted(t, wideBerths(2), someShips(6), staysOf(stayOf(0, a, 100, 200), stayOf(1, b, 150, 250), stayOf(0, a, 200, 300)), 0, 1, 0)
			checkNotAllotted(t, wideBerths(1), someShips(6), staysOf(stayOf(0, a, 100, 200), stayOf(1, b, 150, 250)))
		}
	}
}

func TestAllotBerthsOfOneShip(t *testing.T) {
	for _, ends := range [][3]int{{200, 300, 1}, {199, 300, 0}, {0, 100, 1}, {0, 101, 0}, {120, 180, 0}, {100, 200, 0}} {
		asks := staysOf(stayOf(0, 0, 100, 200), stayOf(0, 0, ends[0], ends[1]))
		if ends[2] == 1 {
			checkAllotted(t, wideBerths(4), someShips(1), asks, 0, 0)
		} else {
			checkNotAllotted(t, wideBerths(4), someShips(1), asks)
			checkNotAllotted(t, wideBerths(4), someShips(1), staysOf(asks[1], asks[0]))
		}
	}
}

func TestAllotBerthsOfEveryShipAndTime(t *testing.T) {
	for _, ship := range numbersAround(3) {
		s := stayOf(ship, 0, 100, 200)
		if within(ship, 0, 2) {
			checkAllotted(t, wideBerths(2), someShips(3), staysOf(s), 0)
			checkAllotted(t, wideBerths(2), someShips(3), staysOf(s, stayOf((ship+1)%3, 0, 199, 200)), 0, 1)
		} else {
			checkNotAllotted(t, wideBerths(2), someShips(3), staysOf(s))
			checkNotAllotted(t, wideBerths(2), someShips(3), staysOf(stayOf(0, 0, 300, 310), s))
		}
	}
	for _, from := range minutesAround() {
		for _, to := range minutesAround() {
			asks := staysOf(stayOf(0, 0, 30, 2850), stayOf(1, 0, from, to))
			switch {
			case from < 0 || from >= to || to > 2880:
				checkNotAllotted(t, wideBerths(2), someShips(2), asks)
			case to <= 30 || from >= 2850:
				checkAllotted(t, wideBerths(2), someShips(2), asks, 0, 0)
			default:
				checkAllotted(t, wideBerths(2), someShips(2), asks, 0, 1)
			}
		}
	}
}

// allotSlowly tries all lists of berths in lexicographic order.
func allotSlowly(berths []impl.Berth, fleet []impl.Ship, asks []impl.Stay) ([]int, bool) {
	var numbers []int
	for i := range berths {
		numbers = append(numbers, i)
	}
	for _, list := range beginsOf(numbers, len(asks)) {
		if impl.StaysOk(berths, fleet, withBerths(asks, list...)) {
			return list, true
		}
	}
	return nil, false
}

// crowdedAsks gives n asks of different ships, of which many meet.
func crowdedAsks(seed int, n int) []impl.Stay {
	list := mixedStays(seed, n)
	for i := range list {
		list[i].Ship = (seed + i*(seed%2*4+1)) % 6
		list[i].From = list[i].From % 120
		list[i].To = list[i].From + 10 + (seed*7+i*29)%60
	}
	return list
}

// Berths are allotted whenever this is possible: not one list of berths is left out, and the first one counts.
func TestAllotBerthsOfManyAsks(t *testing.T) {
	mixed, _ := sizedQuay()
	slices.Reverse(mixed)
	fleet := []impl.Ship{shipOf("a", 100, 500, 0, 1), shipOf("b", 90, 900, 0, 1), shipOf("c", 200, 400, 0, 1), shipOf("d", 190, 850, 0, 1), shipOf("e", 100, 100, 0, 1), shipOf("f", 80, 500, 0, 1)}
	allotted, refused, greedy := 0, 0, 0
	for seed := range 60 {
		for n := 1; n <= 6; n++ {
			for _, berths := range [][]impl.Berth{mixed, mixed[:2], mixed[1:], wideBerths(3)} {
				asks := crowdedAsks(seed, n)
				want, ok := allotSlowly(berths, fleet, asks)
				if !ok {
					checkNotAllotted(t, berths, fleet, asks)
					refused++
					continue
				}
				checkAllotted(t, berths, fleet, asks, want...)
				allotted++
				if !slices.Equal(want, firstFree(berths, fleet, asks)) {
					greedy++
				}
			}
		}
	}
	if allotted < 100 || refused < 100 || greedy < 20 {
		t.Errorf("%d lists of asks are allotted, %d refused, and for %d the first free berths are wrong", allotted, refused, greedy)
	}
}

// firstFree takes the first free berth for each ask.
func firstFree(berths []impl.Berth, fleet []impl.Ship, asks []impl.Stay) []int {
	var stays []impl.Stay
	var list []int
	for _, s := range asks {
		s.Berth = impl.FindBerth(berths, fleet, stays, s.Ship, s.From, s.To)
		stays = append(stays, s)
		list = append(list, s.Berth)
	}
	return list
}

func TestAllottedBerthsAreStays(t *testing.T) {
	for seed := range 200 {
		for n := range 7 {
			asks := crowdedAsks(seed, n)
			if stays, ok := impl.AllotBerths(wideBerths(3), someShips(6), asks); ok {
				checkStays(t, wideBerths(3), someShips(6), stays, true)
			}
		}
	}
}

func TestAllotBerthsRefuses(t *testing.T) {
	for _, asks := range [][]impl.Stay{nil, {}, someStays(1), someStays(6), staysOf(stayOf(0, 0, math.MinInt, math.MaxInt))} {
		for _, berths := range badQuays() {
			checkNotAllotted(t, berths, someShips(6), asks)
			checkNotAllotted(t, berths, nil, asks)
		}
		for _, fleet := range badFleets() {
			checkNotAllotted(t, wideBerths(4), fleet, asks)
			checkNotAllotted(t, nil, fleet, asks)
		}
	}
}
