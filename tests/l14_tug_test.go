package tests

import (
	"math"
	"slices"
	"testing"

	"loop.example/g00831/impl"
)

// The tests of tugs and pilots sail fullChart with someShips(6), who need 0, 1, 2, 3, 4 and 0 tugs; every other one is slow.

// sailing gives a passage that is valid if the ship, the segment and the times are, in the direction of the segment.
func sailing(ship int, number int, start int) impl.Passage {
	return passageOf(ship, number, start, start+slowMinutes(fullChart(), number, someShips(6)[ship]))
}

// voyage gives the passages of a ship from point to point, without a stop.
func voyage(ship int, start int, points ...int) []impl.Passage {
	var list []impl.Passage
	for i, to := range points[1:] {
		for number, s := range fullChart().Segments {
			p := sailing(ship, number, start)
			if s.A == points[i] && s.B == to {
				list = append(list, p)
			} else if s.B == points[i] && s.A == to {
				list = append(list, backward(p))
			}
		}
		start = list[i].End
	}
	return list
}

// fitsSlowly says whether a passage is valid.
func fitsSlowly(p impl.Passage) bool {
	c, fleet := fullChart(), someShips(6)
	if p.Ship < 0 || p.Ship >= len(fleet) || p.Segment < 0 || p.Segment >= len(c.Segments) {
		return false
	}
	return 0 <= p.Start && p.Start <= 2880 && p.End-p.Start == slowMinutes(c, p.Segment, fleet[p.Ship]) && p.End <= 2880
}

// pointsSlowly gives the points at which a passage begins and ends.
func pointsSlowly(p impl.Passage) [2]int {
	s := fullChart().Segments[p.Segment]
	return map[bool][2]int{true: {s.A, s.B}, false: {s.B, s.A}}[p.Toward]
}

// tugDutiesSlowly gives the duties, and no value if they are too many or a passage is not valid.
func tugDutiesSlowly(list []impl.Passage) ([]impl.Duty, bool) {
	var duties []impl.Duty
	for _, p := range list {
		if !fitsSlowly(p) {
			return nil, false
		}
		points := pointsSlowly(p)
		for range someShips(6)[p.Ship].Tugs {
			duties = append(duties, dutyOf(p.Start, p.End, points[0], points[1]))
		}
	}
	if len(duties) > 12 {
		return nil, false
	}
	return duties, true
}

// badPassages gives passages that are valid but for one field or for the time.
func badPassages() []impl.Passage {
	list := chainOf(impl.Passage{}, passageOf(2, 2, 20, 0), passageOf(2, 2, 100, 100), passageOf(2, 2, 2861, 2881), passageOf(2, 2, 2880, 2900), passageOf(2, 2, -1, 19), passageOf(2, 2, -20, 0), passageOf(0, 2, 2861, 2881), passageOf(3, 2, 100, 120), passageOf(2, 2, 100, 140))
	for _, ship := range []int{math.MinInt, -1, 6, 7, math.MaxInt} {
		list = append(list, passageOf(ship, 2, 100, 120))
	}
	for _, number := range []int{math.MinInt, -1, 10, 11, math.MaxInt} {
		list = append(list, passageOf(2, number, 100, 120), passageOf(0, number, 100, 120))
	}
	for _, minute := range []int{math.MinInt, -1, 99, 101, 2880, 2881, math.MaxInt} {
		list = append(list, passageOf(2, 2, minute, 120), passageOf(2, 2, 100, minute+20))
	}
	for _, p := range slices.Clone(list) {
		list = append(list, backward(p))
	}
	return list
}

func checkTugDuties(t *testing.T, list []impl.Passage, want ...impl.Duty) {
	t.Helper()
	if got := impl.TugDuties(fullChart(), someShips(6), list); !slices.Equal(got, want) {
		t.Errorf("TugDuties of %+v is %+v, want %+v", list, got, want)
	}
}

func TestTugDuties(t *testing.T) {
	checkTugDuties(t, nil)
	checkTugDuties(t, chainOf())
	checkTugDuties(t, chainOf(passageOf(0, 0, 10, 11)))
	checkTugDuties(t, chainOf(passageOf(1, 0, 10, 12)), dutyOf(10, 12, 0, 1))
	checkTugDuties(t, chainOf(backward(passageOf(1, 0, 10, 12))), dutyOf(10, 12, 1, 0))
	two := dutyOf(11, 251, 2, 1)
	checkTugDuties(t, chainOf(passageOf(2, 1, 11, 251)), two, two)
	back := dutyOf(11, 251, 1, 2)
	checkTugDuties(t, chainOf(backward(passageOf(2, 1, 11, 251))), back, back)
	three := dutyOf(2840, 2880, 4, 3)
	checkTugDuties(t, chainOf(passageOf(3, 3, 2840, 2880)), three, three, three)
	four := dutyOf(0, 9, 6, 7)
	checkTugDuties(t, chainOf(backward(passageOf(4, 8, 0, 9))), four, four, four, four)
	checkTugDuties(t, chainOf(passageOf(5, 8, 0, 18), passageOf(1, 0, 10, 12), passageOf(0, 2, 10, 30), passageOf(2, 1, 11, 251)), dutyOf(10, 12, 0, 1), two, two)
}

// The duties are in the order of the passages, which need be neither that of their times nor a chain.
func TestTugDutiesInOrder(t *testing.T) {
	list := chainOf(sailing(1, 2, 900), backward(sailing(2, 6, 10)), sailing(1, 2, 900), sailing(3, 7, 400), backward(sailing(4, 9, 5)))
	for _, order := range ordersOf([]int{0, 1, 2, 3, 4}) {
		var mixed []impl.Passage
		for _, i := range order {
			mixed = append(mixed, list[i])
		}
		duties, _ := tugDutiesSlowly(mixed)
		if len(duties) != 11 {
			t.Errorf("there are %d duties", len(duties))
		}
		checkTugDuties(t, mixed, duties...)
	}
}

func TestTugDutiesOfEveryPassage(t *testing.T) {
	for ship := range 6 {
		for number := range 10 {
			for _, start := range []int{0, 1, 700, 2879 - 2*240, 2880 - 2*240} {
				for _, p := range chainOf(sailing(ship, number, start), backward(sailing(ship, number, start))) {
					duties, _ := tugDutiesSlowly(chainOf(p))
					if len(duties) != ship%5 {
						t.Errorf("%+v has %d duties", p, len(duties))
					}
					checkTugDuties(t, chainOf(p), duties...)
				}
			}
		}
	}
}

// tugTrips gives a passage of each of the ships, one after the other.
func tugTrips(ships []int) []impl.Passage {
	var list []impl.Passage
	for i, ship := range ships {
		list = append(list, sailing(ship, i%10, 200*i))
	}
	return list
}

// Up to twelve duties are given, whatever the tugs that the ships need; with one more there is none at all.
func TestTugDutiesOfEveryNumber(t *testing.T) {
	least := 0
	for n := range 6 {
		for _, ships := range beginsOf([]int{0, 1, 2, 3, 4}, n) {
			duties, ok := tugDutiesSlowly(tugTrips(ships))
			if !ok {
				least++
			}
			checkTugDuties(t, tugTrips(ships), duties...)
		}
	}
	if least < 100 {
		t.Errorf("the duties are too many only %d times", least)
	}
}

func TestTugDutiesAtTheLimit(t *testing.T) {
	whole := tugTrips([]int{4, 4, 4})
	duties, _ := tugDutiesSlowly(whole)
	checkTugDuties(t, whole, duties...)
	checkTugDuties(t, append(slices.Clone(whole), sailing(0, 2, 7), sailing(5, 2, 7)), duties...)
	checkTugDuties(t, append(tugTrips([]int{0, 0}), append(whole, tugTrips(make([]int, 14))...)...), duties...)
	for ship := 1; ship < 5; ship++ {
		checkTugDuties(t, append(slices.Clone(whole), sailing(ship, 2, 7)))
		checkTugDuties(t, append(chainOf(sailing(ship, 2, 7)), whole...))
	}
	single := dutyOf(100, 140, 2, 3)
	for n := range 20 {
		if n <= 12 {
			checkTugDuties(t, slices.Repeat(chainOf(sailing(1, 2, 100)), n), slices.Repeat(dutiesOf(single), n)...)
		} else {
			checkTugDuties(t, slices.Repeat(chainOf(sailing(1, 2, 100)), n))
		}
	}
	checkTugDuties(t, slices.Repeat(chainOf(sailing(0, 2, 100)), 3000))
}

// withAt gives a list that has another element at one place.
func withAt[T any](list []T, at int, x T) []T {
	list = slices.Clone(list)
	list[at] = x
	return list
}

func TestTugDutiesRefusesPassages(t *testing.T) {
	for _, bad := range badPassages() {
		if fitsSlowly(bad) {
			t.Errorf("%+v is valid", bad)
		}
		checkTugDuties(t, chainOf(bad))
		for _, ships := range [][]int{{1, 2, 3, 4}, {0, 0, 5, 0, 0}, {4, 4, 4, 0}, {4, 4, 4, 1, 0, 0}, {4, 4, 4, 4, 4}} {
			for at := range ships {
				checkTugDuties(t, withAt(tugTrips(ships), at, bad))
			}
		}
	}
}

func TestTugDutiesRefuses(t *testing.T) {
	for _, c := range badCharts() {
		for number := range c.Segments {
			p := passageOf(1, number, 100, 100+2*c.Segments[number].Minutes)
			if got := impl.TugDuties(c, someShips(6), chainOf(p)); len(got) > 0 {
				t.Errorf("TugDuties of %+v in %+v is %+v", p, c, got)
			}
		}
	}
	for _, fleet := range badFleets() {
		for ship, s := range fleet {
			p := passageOf(ship, 2, 100, 100+slowMinutes(fullChart(), 2, s))
			if got := impl.TugDuties(fullChart(), fleet, chainOf(p)); len(got) > 0 {
				t.Errorf("TugDuties of %+v with %+v is %+v", p, fleet, got)
			}
		}
	}
}
