package tests

import (
	"slices"
	"testing"

	"loop.example/g00831/impl"
)

func checkTugsNeeded(t *testing.T, w impl.Crew, list []impl.Passage, want int) {
	t.Helper()
	if got := impl.TugsNeeded(w, fullChart(), someShips(6), list); got != want {
		t.Errorf("TugsNeeded with %+v for %+v is %d, want %d", w, list, got, want)
	}
}

// tugsSlowly gives the least number of tugs for a valid crew.
func tugsSlowly(w impl.Crew, list []impl.Passage) int {
	duties, ok := tugDutiesSlowly(list)
	if !ok {
		return -1
	}
	return fewestSlowly(togetherSlowly(0, w.Moves, duties))
}

func TestTugsNeeded(t *testing.T) {
	for _, w := range goodCrews() {
		checkTugsNeeded(t, w, nil, 0)
		checkTugsNeeded(t, w, chainOf(), 0)
		for ship, want := range []int{0, 1, 2, 3, 4, 0} {
			checkTugsNeeded(t, w, chainOf(sailing(ship, 2, 100)), want)
			checkTugsNeeded(t, w, chainOf(backward(sailing(ship, 9, 100))), want)
			checkTugsNeeded(t, w, chainOf(sailing(ship, 2, 100), sailing(ship, 2, 119)), 2*want)
		}
	}
	w := wholeCrew()
	checkTugsNeeded(t, w, chainOf(sailing(2, 2, 100), sailing(4, 3, 120)), 4)
	checkTugsNeeded(t, w, chainOf(sailing(2, 2, 101), sailing(4, 3, 120)), 6)
	checkTugsNeeded(t, w, chainOf(sailing(4, 3, 120), sailing(2, 2, 100), sailing(3, 2, 140)), 4)
	checkTugsNeeded(t, w, chainOf(sailing(4, 3, 120), sailing(2, 2, 100), sailing(3, 2, 139)), 7)
	checkTugsNeeded(t, w, voyage(3, 0, 3, 2, 1, 0), 3)
}

// Neither a chart nor ships are asked for if there is no passage.
func TestTugsNeededWithoutPassages(t *testing.T) {
	for _, c := range append(goodCharts(), badCharts()...) {
		if got := impl.TugsNeeded(wholeCrew(), c, someShips(6), nil); got != 0 {
			t.Errorf("TugsNeeded for no passage in %+v is %d", c, got)
		}
	}
	for _, fleet := range append(goodFleets(), badFleets()...) {
		if got := impl.TugsNeeded(wholeCrew(), fullChart(), fleet, chainOf()); got != 0 {
			t.Errorf("TugsNeeded for no passage with %+v is %d", fleet, got)
		}
	}
}

// A tug comes from the point at which the first passage ends to the one at which the second begins; it does not rest.
func TestTugsNeededBetweenPassages(t *testing.T) {
	rows := slices.Collect(slices.Chunk(crookedMoves(), 8))
	for _, rest := range []int{0, 1, 30, 2880} {
		w := crewOf(0, 0, rest, crookedMoves())
		for first := range 10 {
			for second := range 10 {
				for way := range 4 {
					a := sailing(1, first, 100)
					a.Toward = way&1 == 0
					ready := a.End + rows[pointsSlowly(a)[1]][pointsSlowly(backwardIf(way&2 > 0, sailing(2, second, 0)))[0]]
					for more := -1; more <= 1; more++ {
						b := backwardIf(way&2 > 0, sailing(2, second, ready+more))
						want := 2
						if more < 0 {
							want = 3
						}
						checkTugsNeeded(t, w, chainOf(a, b), want)
						checkTugsNeeded(t, w, chainOf(b, a), want)
					}
				}
			}
		}
	}
}

func backwardIf(turn bool, p impl.Passage) impl.Passage {
	if turn {
		return backward(p)
	}
	return p
}

// How many tugs and pilots there are, and how long these rest, makes no difference to how many tugs are needed.
func TestTugsNeededOfEveryCrew(t *testing.T) {
	list := withAt(tugTrips([]int{1, 4, 0, 2, 3, 1}), 0, sailing(1, 2, 210))
	for tugs := range 13 {
		for pilots := range 13 {
			for _, rest := range []int{0, 60, 2880} {
				checkTugsNeeded(t, crewOf(tugs, pilots, rest, impl.StayingMoves()), list, 5)
				checkTugsNeeded(t, crewOf(tugs, pilots, rest, impl.StayingMoves()), list[1:], 4)
			}
		}
	}
}

func TestTugsNeededOfEveryNumber(t *testing.T) {
	for n := range 20 {
		for _, w := range goodCrews() {
			want := n
			if n > 12 {
				want = -1
			}
			checkTugsNeeded(t, w, slices.Repeat(chainOf(sailing(1, 2, 100)), n), want)
			checkTugsNeeded(t, w, slices.Repeat(chainOf(sailing(0, 2, 100)), n), 0)
		}
	}
	for _, ships := range beginsOf([]int{0, 1, 2, 3, 4}, 4) {
		list := tugTrips(ships)
		for i := range list {
			list[i] = sailing(ships[i], 2, 50*i)
		}
		checkTugsNeeded(t, wholeCrew(), list, tugsSlowly(wholeCrew(), list))
	}
	checkTugsNeeded(t, wholeCrew(), tugTrips([]int{4, 4, 4, 0, 0}), 8)
	checkTugsNeeded(t, wholeCrew(), tugTrips([]int{4, 4, 4, 0, 1}), -1)
	checkTugsNeeded(t, crewOf(0, 0, 0, impl.StayingMoves()), tugTrips([]int{1, 4, 4, 4}), -1)
}

// crowdedPassages gives n passages by all ships, of which many meet, in no order of their times.
func crowdedPassages(seed int, n int) []impl.Passage {
	var list []impl.Passage
	for i := range n {
		p := sailing((seed+i*i)%6, (seed*7+3*i)%10, (seed*131+i*i*197+61*i*seed)%500)
		p.Toward = (seed+i)%3 > 0
		list = append(list, p)
	}
	return list
}

// The numbers are least, and those of the least cover of the duties without a pause.
func TestTugsNeededOfManyPassages(t *testing.T) {
	several := 0
	for seed := range 120 {
		for n := range 8 {
			for i, moves := range waysToMove() {
				w, list := crewOf(3, 2, 17*seed, moves), crowdedPassages(seed*4+i, n)
				want := tugsSlowly(w, list)
				checkTugsNeeded(t, w, list, want)
				if want >= 0 {
					_, persons, _ := impl.LeastCover(0, moves, impl.TugDuties(fullChart(), someShips(6), list))
					checkTugsNeeded(t, w, list, persons)
				}
				if want > 4 {
					several++
				}
			}
		}
	}
	if several < 200 {
		t.Errorf("more than four tugs are needed only %d times", several)
	}
}

func TestTugsNeededRefusesPassages(t *testing.T) {
	for _, bad := range badPassages() {
		checkTugsNeeded(t, wholeCrew(), chainOf(bad), -1)
		for _, ships := range [][]int{{1, 2, 3}, {0, 0, 0}, {4, 4, 4, 4}} {
			for at := range ships {
				checkTugsNeeded(t, wholeCrew(), withAt(tugTrips(ships), at, bad), -1)
			}
		}
	}
}

func TestTugsNeededRefuses(t *testing.T) {
	for _, w := range badCrews() {
		for _, list := range [][]impl.Passage{nil, {}, chainOf(sailing(0, 2, 100)), chainOf(sailing(1, 2, 100)), tugTrips([]int{4, 4, 4})} {
			checkTugsNeeded(t, w, list, -1)
		}
	}
	p := passageOf(0, 2, 100, 120)
	for _, c := range badCharts() {
		if got := impl.TugsNeeded(wholeCrew(), c, someShips(6), chainOf(p)); got != -1 {
			t.Errorf("TugsNeeded for %+v in %+v is %d", p, c, got)
		}
	}
	for _, fleet := range append(badFleets(), nil) {
		if got := impl.TugsNeeded(wholeCrew(), fullChart(), fleet, chainOf(p)); got != -1 {
			t.Errorf("TugsNeeded for %+v with %+v is %d", p, fleet, got)
		}
	}
}
