package tests

import (
	"math"
	"slices"
	"testing"

	"loop.example/g00831/impl"
)

func checkPilotDuty(t *testing.T, list []impl.Passage, want impl.Duty) {
	t.Helper()
	if got, ok := impl.PilotDuty(fullChart(), someShips(6), list); !ok || got != want {
		t.Errorf("PilotDuty of %+v is %+v, %v, want %+v", list, got, ok, want)
	}
}

func checkNoPilotDuty(t *testing.T, list []impl.Passage) {
	t.Helper()
	if got, ok := impl.PilotDuty(fullChart(), someShips(6), list); ok || got != (impl.Duty{}) {
		t.Errorf("PilotDuty of %+v is %+v, %v", list, got, ok)
	}
}

// pilotDutySlowly gives the duty, and no value if there is none.
func pilotDutySlowly(list []impl.Passage) (impl.Duty, bool) {
	if len(list) == 0 || !slowChain(fullChart(), list) {
		return impl.Duty{}, false
	}
	for _, p := range list {
		if !fitsSlowly(p) {
			return impl.Duty{}, false
		}
	}
	first, last := list[0], list[len(list)-1]
	return dutyOf(first.Start, last.End, pointsSlowly(first)[0], pointsSlowly(last)[1]), true
}

// checkPilotSlowly compares the duty of a list with that of the slow way.
func checkPilotSlowly(t *testing.T, list []impl.Passage) {
	t.Helper()
	if want, ok := pilotDutySlowly(list); ok {
		checkPilotDuty(t, list, want)
	} else {
		checkNoPilotDuty(t, list)
	}
}

func TestPilotDuty(t *testing.T) {
	checkPilotDuty(t, chainOf(passageOf(0, 0, 10, 11)), dutyOf(10, 11, 0, 1))
	checkPilotDuty(t, chainOf(backward(passageOf(0, 0, 10, 11))), dutyOf(10, 11, 1, 0))
	checkPilotDuty(t, chainOf(passageOf(4, 1, 0, 240)), dutyOf(0, 240, 2, 1))
	checkPilotDuty(t, chainOf(passageOf(5, 1, 2400, 2880)), dutyOf(2400, 2880, 2, 1))
	checkPilotDuty(t, chainOf(passageOf(2, 0, 10, 11), backward(passageOf(2, 1, 11, 251))), dutyOf(10, 251, 0, 2))
	checkPilotDuty(t, chainOf(passageOf(2, 0, 10, 11), backward(passageOf(2, 1, 500, 740))), dutyOf(10, 740, 0, 2))
	checkPilotDuty(t, voyage(2, 10, 0, 1, 2, 3), dutyOf(10, 271, 0, 3))
	checkPilotDuty(t, voyage(3, 10, 3, 2, 1, 0), dutyOf(10, 532, 3, 0))
	checkPilotDuty(t, voyage(0, 0, 7, 6, 2, 3, 4, 5, 0, 1), dutyOf(0, 116, 7, 1))
	checkPilotDuty(t, voyage(0, 700, 3, 2, 3, 2, 3), dutyOf(700, 780, 3, 3))
}

func TestPilotDutyOfNoPassage(t *testing.T) {
	for _, list := range [][]impl.Passage{nil, {}, voyage(0, 0, 0, 1)[:0]} {
		checkNoPilotDuty(t, list)
		for _, c := range append(goodCharts(), badCharts()...) {
			if got, ok := impl.PilotDuty(c, nil, list); ok || got != (impl.Duty{}) {
				t.Errorf("PilotDuty of no passage in %+v is %+v, %v", c, got, ok)
			}
		}
	}
}

func TestPilotDutyOfEveryPassage(t *testing.T) {
	for ship := range 6 {
		for number, s := range fullChart().Segments {
			for _, start := range []int{0, 1, 700, 2880 - 2*240} {
				p := sailing(ship, number, start)
				checkPilotDuty(t, chainOf(p), dutyOf(start, p.End, s.A, s.B))
				checkPilotDuty(t, chainOf(backward(p)), dutyOf(start, p.End, s.B, s.A))
			}
		}
	}
}

// The duty lasts to the end of the last passage, however many there are and however long the ship waits between them.
func TestPilotDutyOfLongChains(t *testing.T) {
	var list []impl.Passage
	for n := range 288 {
		p := sailing(0, 8, 10*n)
		if n%2 == 1 {
			p = backward(p)
		}
		list = append(list, p)
		checkPilotDuty(t, list, dutyOf(0, 10*n+9, 7, 6+n%2))
		checkPilotDuty(t, list[n:], dutyOf(10*n, 10*n+9, 7-n%2, 6+n%2))
	}
	for at, p := range list {
		p.End++
		checkNoPilotDuty(t, withAt(list, at, p))
	}
}

func TestPilotDutyOfNoChain(t *testing.T) {
	list := voyage(2, 100, 0, 1, 2, 3)
	checkPilotDuty(t, list, dutyOf(100, 361, 0, 3))
	for at, p := range list {
		for _, ship := range []int{0, 4} {
			p.Ship = ship
			checkNoPilotDuty(t, withAt(list, at, p))
		}
		p = list[at]
		p.Toward = !p.Toward
		checkNoPilotDuty(t, withAt(list, at, p))
		early, late := list[at], list[at]
		early.Start, early.End = early.Start-1, early.End-1
		late.Start, late.End = late.Start+1, late.End+1
		checkPilotSlowly(t, withAt(list, at, early))
		checkPilotSlowly(t, withAt(list, at, late))
	}
	checkNoPilotDuty(t, chainOf(list[0], list[2]))
	checkNoPilotDuty(t, chainOf(list[1], list[0]))
	checkNoPilotDuty(t, chainOf(list[0], list[0]))
	checkNoPilotDuty(t, append(slices.Clone(list), list[0]))
}

// Each of the lists is still a chain, but a ship, an End or a Start is not valid.
func TestPilotDutyOfChainsThatAreNotValid(t *testing.T) {
	for _, ship := range []int{math.MinInt, -1, 6, math.MaxInt} {
		list := voyage(2, 100, 0, 1, 2, 3)
		for i := range list {
			list[i].Ship = ship
		}
		checkChain(t, fullChart(), list, true)
		checkNoPilotDuty(t, list)
		checkNoPilotDuty(t, list[:1])
	}
	for at := range 3 {
		list := voyage(2, 100, 0, 1, 2, 3)
		list[at].Start++
		checkChain(t, fullChart(), list, true)
		checkNoPilotDuty(t, list)
		list[at].Start--
		list[at].End--
		checkChain(t, fullChart(), list, true)
		checkNoPilotDuty(t, list)
	}
	for _, start := range []int{math.MinInt, -261, -240, -1, 2880 - 260, 2880, math.MaxInt - 261} {
		list := voyage(2, start, 0, 1, 2, 3)
		checkChain(t, fullChart(), list, true)
		checkNoPilotDuty(t, list)
	}
	checkPilotDuty(t, voyage(2, 0, 0, 1, 2, 3), dutyOf(0, 261, 0, 3))
	checkPilotDuty(t, voyage(2, 2880-261, 0, 1, 2, 3), dutyOf(2880-261, 2880, 0, 3))
	checkNoPilotDuty(t, voyage(3, 2880-261, 0, 1, 2, 3))
}

func TestPilotDutyRefusesPassages(t *testing.T) {
	for _, bad := range badPassages() {
		checkNoPilotDuty(t, chainOf(bad))
		for at := range 4 {
			checkNoPilotDuty(t, withAt(voyage(2, 100, 2, 3, 2, 3, 2), at, bad))
		}
	}
}

// Two passages of every ship in both directions, at times that meet and do not.
func TestPilotDutyOfEveryTwoPassages(t *testing.T) {
	chained := 0
	for first := range 10 {
		for second := range 10 {
			for way := range 4 {
				for _, starts := range [][2]int{{0, 30}, {0, 29}, {0, 31}, {500, 0}, {0, 0}, {100, 160}, {100, 700}, {2820, 2850}} {
					for _, ships := range [][2]int{{0, 0}, {1, 1}, {0, 2}, {3, 5}} {
						a, b := sailing(ships[0], first, starts[0]), sailing(ships[1], second, starts[1])
						a.Toward, b.Toward = way&1 == 0, way&2 == 0
						checkPilotSlowly(t, chainOf(a, b))
						if _, ok := pilotDutySlowly(chainOf(a, b)); ok {
							chained++
						}
					}
				}
			}
		}
	}
	if chained < 200 {
		t.Errorf("only %d pairs are chains", chained)
	}
}

func TestPilotDutyRefuses(t *testing.T) {
	for _, c := range badCharts() {
		for number := range c.Segments {
			p := passageOf(0, number, 100, 100+c.Segments[number].Minutes)
			if got, ok := impl.PilotDuty(c, someShips(6), chainOf(p)); ok || got != (impl.Duty{}) {
				t.Errorf("PilotDuty of %+v in %+v is %+v, %v", p, c, got, ok)
			}
		}
	}
	for _, fleet := range append(badFleets(), nil) {
		p := passageOf(0, 2, 100, 120)
		if got, ok := impl.PilotDuty(fullChart(), fleet, chainOf(p)); ok || got != (impl.Duty{}) {
			t.Errorf("PilotDuty of %+v with %+v is %+v, %v", p, fleet, got, ok)
		}
	}
}
