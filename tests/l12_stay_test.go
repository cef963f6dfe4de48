package tests

import (
	"math"
	"slices"
	"testing"

	"loop.example/g00831/impl"
)

func stayOf(ship int, berth int, from int, to int) impl.Stay {
	return impl.Stay{Ship: ship, Berth: berth, From: from, To: to}
}

func staysOf(list ...impl.Stay) []impl.Stay { return list }

// someStays gives n stays of ten minutes of the ships of someShips(6) in turn, at the berths of wideBerths(4) in turn, with no minute in common.
func someStays(n int) []impl.Stay {
	var list []impl.Stay
	for i := range n {
		list = append(list, stayOf(i%6, i%4, 10*i, 10*i+10))
	}
	return list
}

// busyStays gives n stays of one ship at one berth that touch each other.
func busyStays(n int) []impl.Stay {
	var list []impl.Stay
	for i := range n {
		list = append(list, stayOf(0, 0, 240*i, 240*i+240))
	}
	return list
}

func checkStays(t *testing.T, berths []impl.Berth, fleet []impl.Ship, stays []impl.Stay, want bool) {
	t.Helper()
	if got := impl.StaysOk(berths, fleet, stays); got != want {
		t.Errorf("StaysOk(%+v, %+v, %+v) is %v", berths, fleet, stays, got)
	}
}

// checkBothOrders asks for two stays in both orders of the list.
func checkBothOrders(t *testing.T, a impl.Stay, b impl.Stay, want bool) {
	t.Helper()
	checkStays(t, wideBerths(4), someShips(6), staysOf(a, b), want)
	checkStays(t, wideBerths(4), someShips(6), staysOf(b, a), want)
	checkStays(t, wideBerths(4), someShips(6), staysOf(stayOf(5, 3, 0, 2880), a, stayOf(4, 2, 0, 2880), b), want)
	checkStays(t, wideBerths(4), someShips(6), staysOf(b, stayOf(5, 3, 0, 2880), a, stayOf(4, 2, 0, 2880)), want)
}

func TestStaysOk(t *testing.T) {
	berths := []impl.Berth{berthOf("n1", 150, 800), berthOf("n2", 200, 900)}
	fleet := []impl.Ship{shipOf("a", 150, 800, 0, 1), shipOf("b", 200, 900, 0, 1), shipOf("c", 10, 100, 0, 0)}
	checkStays(t, berths, fleet, staysOf(stayOf(0, 0, 100, 200), stayOf(1, 1, 150, 250), stayOf(2, 0, 200, 300)), true)
	checkStays(t, berths, fleet, staysOf(stayOf(0, 1, 100, 200), stayOf(1, 1, 200, 250), stayOf(2, 0, 150, 300)), true)
	checkStays(t, berths, fleet, staysOf(stayOf(0, 0, 100, 200), stayOf(1, 0, 200, 250)), false)
	checkStays(t, berths, fleet, staysOf(stayOf(0, 0, 100, 200), stayOf(0, 0, 200, 300), stayOf(0, 1, 300, 400)), true)
	checkStays(t, berths, fleet, staysOf(stayOf(0, 0, 100, 200), stayOf(0, 1, 199, 300)), false)
	checkStays(t, berths, fleet, staysOf(stayOf(0, 0, 100, 200), stayOf(2, 0, 199, 300)), false)
	checkStays(t, berths, fleet, staysOf(stayOf(0, 0, 0, 2880), stayOf(1, 1, 0, 2880)), true)
	checkStays(t, berths, fleet, staysOf(stayOf(0, 0, 0, 2880), stayOf(1, 1, 0, 2881)), false)
}

func TestStaysOkWithoutStays(t *testing.T) {
	for _, berths := range goodQuays() {
		for _, fleet := range goodFleets() {
			checkStays(t, berths, fleet, nil, true)
			checkStays(t, berths, fleet, []impl.Stay{}, true)
		}
	}
}

func TestStaysOkOfEveryNumber(t *testing.T) {
	for n := range 30 {
		checkStays(t, wideBerths(4), someShips(6), someStays(n), n <= 12)
		checkStays(t, wideBerths(1), someShips(1), busyStays(n), n <= 12)
	}
	for n := 13; n <= 300; n++ {
		checkStays(t, wideBerths(4), someShips(6), someStays(n), false)
	}
}

func TestStaysOkOfEveryShipAndBerth(t *testing.T) {
	for ships := range 7 {
		for berths := range 5 {
			for _, ship := range numbersAround(ships) {
				for _, berth := range numbersAround(berths) {
					s := stayOf(ship, berth, 100, 200)
					ok := within(ship, 0, ships-1) && within(berth, 0, berths-1)
					checkStays(t, wideBerths(berths), someShips(ships), staysOf(s), ok)
				}
			}
		}
	}
}

func TestStaysOkOfEveryFit(t *testing.T) {
	var fleet []impl.Ship
	for i, s := range []impl.Ship{shipOf("", 150, 800, 0, 1), shipOf("", 151, 800, 0, 1), shipOf("", 150, 801, 0, 1), shipOf("", 149, 801, 0, 1), shipOf("", 151, 799, 0, 1), shipOf("", 10, 100, 0, 1)} {
		s.Name = "s" + impl.FormatInt(i)
		fleet = append(fleet, s)
	}
	berths := []impl.Berth{berthOf("a", 150, 800), berthOf("b", 151, 800), berthOf("c", 150, 801), berthOf("d", 10, 99)}
	for ship, s := range fleet {
		for berth, b := range berths {
			fits := s.Length <= b.Length && s.Draught <= b.Depth
			checkStays(t, berths, fleet, staysOf(stayOf(ship, berth, 0, 10)), fits)
			checkStays(t, berths, fleet, staysOf(stayOf(5, 0, 100, 110), stayOf(ship, berth, 0, 10)), fits)
			checkStays(t, berths, fleet, staysOf(stayOf(ship, berth, 0, 10), stayOf(5, 0, 100, 110)), fits)
		}
	}
}

func TestStaysOkOfEveryTime(t *testing.T) {
	for _, from := range minutesAround() {
		for _, to := range minutesAround() {
			ok := from >= 0 && from < to && to <= 2880
			checkStays(t, wideBerths(1), someShips(1), staysOf(stayOf(0, 0, from, to)), ok)
			checkStays(t, wideBerths(2), someShips(2), staysOf(stayOf(1, 1, 0, 2880), stayOf(0, 0, from, to)), ok)
			checkStays(t, wideBerths(2), someShips(2), staysOf(stayOf(0, 0, from, to), stayOf(1, 1, 0, 2880)), ok)
		}
	}
}

// The later of two stays that touch begins at the minute at which the other one has left.
func TestStaysThatTouch(t *testing.T) {
	a := stayOf(0, 0, 100, 200)
	for _, b := range []impl.Stay{stayOf(1, 0, 0, 0), stayOf(0, 1, 0, 0), stayOf(0, 0, 0, 0)} {
		for _, ends := range [][3]int{{200, 300, 1}, {199, 300, 0}, {199, 200, 0}, {201, 202, 1}, {200, 201, 1}, {50, 100, 1}, {50, 101, 0}, {99, 100, 1}, {100, 101, 0}, {0, 99, 1}, {0, 100, 1}, {0, 2880, 0}, {0, 101, 0}, {199, 2880, 0}, {200, 2880, 1}, {100, 200, 0}, {120, 180, 0}, {99, 201, 0}} {
			b.From, b.To = ends[0], ends[1]
			checkBothOrders(t, a, b, ends[2] == 1)
			checkBothOrders(t, a, stayOf(1, 1, b.From, b.To), true)
		}
	}
}

// staysSlowly puts each stay down minute by minute.
func staysSlowly(berths []impl.Berth, fleet []impl.Ship, stays []impl.Stay) bool {
	var taken [10][2881]bool
	for _, s := range stays {
		if !within(s.Ship, 0, len(fleet)-1) || !within(s.Berth, 0, len(berths)-1) || s.From < 0 || s.From >= s.To || s.To > 2880 {
			return false
		}
		if fleet[s.Ship].Length > berths[s.Berth].Length || fleet[s.Ship].Draught > berths[s.Berth].Depth {
			return false
		}
		for minute := s.From; minute < s.To; minute++ {
			if taken[s.Ship][minute] || taken[6+s.Berth][minute] {
				return false
			}
			taken[s.Ship][minute], taken[6+s.Berth][minute] = true, true
		}
	}
	return len(stays) <= 12
}

// everyStay gives all stays of two ships at two berths with these times, in order or not.
func everyStay(times []int) []impl.Stay {
	var list []impl.Stay
	for _, ends := range beginsOf(times, 2) {
		for k := range 4 {
			list = append(list, stayOf(k%2, k/2, ends[0], ends[1]))
		}
	}
	return list
}

func TestStaysOkOfEveryPair(t *testing.T) {
	berths, fleet := wideBerths(2), someShips(2)
	for _, a := range everyStay([]int{0, 1, 2, 3, 2880}) {
		for _, b := range everyStay([]int{0, 1, 2, 3, 2880}) {
			checkStays(t, berths, fleet, staysOf(a, b), staysSlowly(berths, fleet, staysOf(a, b)))
		}
	}
}

// mixedStays gives n stays that have nothing to do with each other.
func mixedStays(seed int, n int) []impl.Stay {
	var list []impl.Stay
	for i := range n {
		from := (seed*131 + i*i*197 + 61*i*seed) % 600
		list = append(list, stayOf((seed+i*i+i)%6, (seed/6+i*(seed%3+1))%4, from, from+20+(seed*7+i*29)%90))
	}
	return list
}

func TestStaysOkOfManyStays(t *testing.T) {
	oks := 0
	for seed := range 500 {
		for n := range 7 {
			for _, berths := range [][]impl.Berth{wideBerths(4), someBerths(4)} {
				stays := mixedStays(seed, n)
				want := staysSlowly(berths, someShips(6), stays)
				checkStays(t, berths, someShips(6), stays, want)
				if want && n > 2 {
					oks++
				}
			}
		}
	}
	if oks < 100 {
		t.Errorf("only %d of the lists are valid", oks)
	}
}

// One stay that is not valid spoils a list, wherever it is in it.
func TestStaysOkOfEveryPlace(t *testing.T) {
	for n := 1; n <= 12; n++ {
		for i := range n {
			for _, bad := range []impl.Stay{stayOf(-1, 0, 500, 510), stayOf(6, 0, 500, 510), stayOf(0, -1, 500, 510), stayOf(0, 4, 500, 510), stayOf(0, 0, 510, 510), stayOf(0, 0, -1, 0), stayOf(0, 0, 2880, 2881), stayOf(0, 0, 510, 500)} {
				stays := someStays(n)
				stays[i] = bad
				checkStays(t, wideBerths(4), someShips(6), stays, false)
			}
			for k := range n {
				stays := someStays(n)
				stays[i] = stayOf(stays[k].Ship, (k+1)%4, stays[k].From+9, stays[k].To+9)
				checkStays(t, wideBerths(4), someShips(6), stays, staysSlowly(wideBerths(4), someShips(6), stays))
			}
		}
	}
}

func TestStaysOkRefuses(t *testing.T) {
	lists := [][]impl.Stay{nil, {}, someStays(1), someStays(12), busyStays(3), staysOf(stayOf(0, 0, math.MinInt, math.MaxInt)), staysOf(stayOf(-1, -1, 0, 10))}
	for _, stays := range lists {
		for _, berths := range badQuays() {
			checkStays(t, berths, someShips(6), stays, false)
			checkStays(t, berths, nil, stays, false)
		}
		for _, fleet := range badFleets() {
			checkStays(t, wideBerths(4), fleet, stays, false)
			checkStays(t, nil, fleet, stays, false)
		}
	}
}

// The order of the stays says nothing.
func TestStaysOkOfEveryOrder(t *testing.T) {
	stays := staysOf(stayOf(0, 0, 0, 100), stayOf(0, 1, 100, 200), stayOf(1, 0, 100, 150), stayOf(2, 0, 150, 2880))
	for _, late := range []int{0, 1} {
		for _, order := range ordersOf([]int{0, 1, 2, 3}) {
			var list []impl.Stay
			for _, i := range order {
				list = append(list, stays[i])
			}
			list[slices.Index(order, 2)].To += late
			checkStays(t, wideBerths(2), someShips(3), list, late == 0)
		}
	}
}
