package tests

import (
	"slices"
	"testing"

	"loop.example/g00831/impl"
)

func checkEnough(t *testing.T, w impl.Crew, chains [][]impl.Passage, want bool) {
	t.Helper()
	if got := impl.CrewSuffices(w, fullChart(), someShips(6), chains); got != want {
		t.Errorf("CrewSuffices with %+v for %+v is %v", w, chains, got)
	}
}

// checkEnoughOfEveryNumber wants the crew to suffice just with as many tugs and pilots as are needed, or more; no number of them is enough where the needed one is -1.
func checkEnoughOfEveryNumber(t *testing.T, w impl.Crew, chains [][]impl.Passage, tugs int, pilots int) {
	t.Helper()
	for w.Tugs = range 13 {
		for w.Pilots = range 13 {
			checkEnough(t, w, chains, tugs >= 0 && w.Tugs >= tugs && pilots >= 0 && w.Pilots >= pilots)
		}
	}
}

func TestCrewSuffices(t *testing.T) {
	w := crewOf(0, 0, 20, impl.StayingMoves())
	checkEnoughOfEveryNumber(t, w, chainsOf(voyage(4, 100, 2, 3, 4)), 4, 1)
	checkEnoughOfEveryNumber(t, w, chainsOf(voyage(2, 100, 2, 3, 4), voyage(4, 140, 2, 3)), 4, 2)
	checkEnoughOfEveryNumber(t, w, chainsOf(voyage(2, 100, 2, 3, 4), voyage(4, 139, 2, 3)), 6, 2)
	checkEnoughOfEveryNumber(t, w, chainsOf(voyage(2, 100, 2, 3, 4), voyage(4, 160, 2, 3)), 4, 1)
	checkEnoughOfEveryNumber(t, w, chainsOf(voyage(4, 100, 2, 3), voyage(2, 110, 2, 3), voyage(1, 119, 2, 3)), 7, 3)
	checkEnoughOfEveryNumber(t, w, chainsOf(voyage(0, 100, 2, 3), voyage(5, 110, 2, 3)), 0, 2)
}

// The moves are for both, but the rest is for pilots only.
func TestCrewSufficesWithMovesAndRest(t *testing.T) {
	chains := chainsOf(voyage(1, 100, 2, 3), voyage(2, 160, 4, 3))
	checkEnoughOfEveryNumber(t, crewOf(0, 0, 0, impl.StayingMoves()), chains, 2, 1)
	checkEnoughOfEveryNumber(t, crewOf(0, 0, 20, impl.StayingMoves()), chains, 2, 1)
	checkEnoughOfEveryNumber(t, crewOf(0, 0, 21, impl.StayingMoves()), chains, 2, 2)
	checkEnoughOfEveryNumber(t, crewOf(0, 0, 2880, impl.StayingMoves()), chains, 2, 2)
	checkEnoughOfEveryNumber(t, crewOf(0, 0, 0, movesWith(3*8+4, 20)), chains, 2, 1)
	checkEnoughOfEveryNumber(t, crewOf(0, 0, 0, movesWith(3*8+4, 21)), chains, 3, 2)
	checkEnoughOfEveryNumber(t, crewOf(0, 0, 1, movesWith(3*8+4, 20)), chains, 2, 2)
}

// Without a passage, a valid crew of no tug and no pilot is enough, whatever the chart and the ships are.
func TestCrewSufficesWithoutPassages(t *testing.T) {
	for _, chains := range [][][]impl.Passage{nil, {}, {nil}, {{}}, {nil, {}, nil}, amongEmpty(300, nil)} {
		for _, w := range goodCrews() {
			checkEnoughOfEveryNumber(t, w, chains, 0, 0)
		}
		for _, c := range append(goodCharts(), badCharts()...) {
			if !impl.CrewSuffices(crewOf(0, 0, 0, impl.StayingMoves()), c, nil, chains) {
				t.Errorf("no crew does not suffice for no passage in %+v", c)
			}
		}
		for _, fleet := range badFleets() {
			if !impl.CrewSuffices(crewOf(0, 0, 0, impl.StayingMoves()), fullChart(), fleet, chains) {
				t.Errorf("no crew does not suffice for no passage with %+v", fleet)
			}
		}
	}
}

func TestCrewSufficesAmongEmptyChains(t *testing.T) {
	for _, n := range []int{1, 2, 13, 100} {
		checkEnoughOfEveryNumber(t, wholeCrew(), amongEmpty(n, chainsOf(voyage(4, 100, 2, 3, 4))), 4, 1)
		checkEnoughOfEveryNumber(t, wholeCrew(), amongEmpty(n, chainsOf(voyage(3, 100, 2, 3), voyage(1, 100, 2, 3))), 4, 2)
		checkEnoughOfEveryNumber(t, wholeCrew(), amongEmpty(n, slices.Repeat(chainsOf(voyage(0, 100, 2, 3)), 12)), 0, 12)
	}
}

// The tugs of all chains together count: up to twelve of them are needed at one time.
func TestCrewSufficesAtOneTime(t *testing.T) {
	for n := range 14 {
		want := n
		if n > 12 {
			want = -1
		}
		checkEnoughOfEveryNumber(t, wholeCrew(), slices.Repeat(chainsOf(voyage(1, 100, 2, 3)), n), want, want)
		checkEnoughOfEveryNumber(t, wholeCrew(), slices.Repeat(chainsOf(voyage(0, 100, 2, 3)), n), 0, want)
	}
	for ship, most := range map[int]int{2: 6, 3: 4, 4: 3} {
		once := slices.Repeat(chainsOf(voyage(ship, 100, 2, 3)), most+1)
		checkEnoughOfEveryNumber(t, wholeCrew(), once[:most], 12, most)
		checkEnoughOfEveryNumber(t, wholeCrew(), once[:most-1], 12-ship, most-1)
		checkEnoughOfEveryNumber(t, wholeCrew(), once, -1, most+1)
	}
}

// More than twelve duties of tugs are too many, even one after the other and of one chain; so are more than twelve chains.
func TestCrewSufficesForTooManyDuties(t *testing.T) {
	checkEnoughOfEveryNumber(t, wholeCrew(), chainsOf(voyage(4, 100, 2, 3, 4, 5)), 4, 1)
	checkEnoughOfEveryNumber(t, wholeCrew(), chainsOf(voyage(4, 100, 2, 3, 4, 5, 0)), -1, 1)
	checkEnoughOfEveryNumber(t, wholeCrew(), chainsOf(voyage(4, 100, 2, 3, 4, 5), voyage(1, 2000, 2, 3)), -1, 1)
	checkEnoughOfEveryNumber(t, wholeCrew(), chainsOf(voyage(4, 100, 2, 3, 4, 5), voyage(0, 2000, 2, 3)), 4, 1)
	turns := make([][]impl.Passage, 14)
	for i := range turns {
		turns[i] = voyage(0, 100*i, 2, 3, 4)
	}
	checkEnoughOfEveryNumber(t, wholeCrew(), turns[:12], 0, 1)
	checkEnoughOfEveryNumber(t, wholeCrew(), turns[:13], 0, -1)
	checkEnoughOfEveryNumber(t, wholeCrew(), turns, 0, -1)
}

// Tugs do not need a chain, but pilots do.
func TestCrewSufficesForNoChain(t *testing.T) {
	good := voyage(2, 100, 0, 1, 2, 3)
	for _, list := range [][]impl.Passage{{good[0], good[2]}, {good[1], good[0]}, {good[2], good[0]}, append(voyage(2, 100, 0, 1), voyage(1, 200, 1, 2)...)} {
		checkTugsNeeded(t, wholeCrew(), list, 2)
		checkEnoughOfEveryNumber(t, wholeCrew(), chainsOf(list), 2, -1)
		checkEnoughOfEveryNumber(t, wholeCrew(), chainsOf(voyage(0, 0, 2, 3), list), 2, -1)
		checkEnoughOfEveryNumber(t, wholeCrew(), chainsOf(list, nil), 2, -1)
	}
	checkEnoughOfEveryNumber(t, wholeCrew(), chainsOf(good), 2, 1)
}

// checkEnoughSlowly compares with the tugs for all passages and the pilots for all chains.
func checkEnoughSlowly(t *testing.T, w impl.Crew, chains [][]impl.Passage) (int, int) {
	t.Helper()
	list := slices.Concat(chains...)
	tugs, pilots := tugsSlowly(w, list), pilotsSlowly(w, chains)
	checkTugsNeeded(t, w, list, tugs)
	checkPilotsNeeded(t, w, chains, pilots)
	for _, more := range beginsOf([]int{-1, 0, 1}, 2) {
		w.Tugs, w.Pilots = tugs+more[0], pilots+more[1]
		checkEnough(t, w, chains, tugs >= 0 && pilots >= 0 && within(w.Tugs, tugs, 12) && within(w.Pilots, pilots, 12))
	}
	return tugs, pilots
}

func TestCrewSufficesForManyChains(t *testing.T) {
	both := 0
	for seed := range 100 {
		for n := range 7 {
			for i, moves := range waysToMove() {
				chains := crowdedChains(seed*4+i, n)
				tugs, pilots := checkEnoughSlowly(t, crewOf(0, 0, seed%4*7, moves), chains)
				if tugs > 2 && pilots > 1 {
					both++
				}
				slices.Reverse(chains)
				checkEnoughSlowly(t, crewOf(0, 0, seed%4*7, moves), chains)
			}
		}
	}
	if both < 200 {
		t.Errorf("several tugs and pilots are needed only %d times", both)
	}
}

func TestCrewSufficesRefusesPassages(t *testing.T) {
	for _, bad := range badPassages() {
		for _, chains := range [][][]impl.Passage{{{bad}}, {nil, {bad}, nil}, {voyage(0, 0, 2, 3), {bad}}, {{bad}, voyage(0, 0, 2, 3)}, {voyage(0, 0, 2, 3), {bad}, voyage(1, 0, 2, 3)}} {
			checkEnough(t, wholeCrew(), chains, false)
		}
		for at := range 3 {
			checkEnough(t, wholeCrew(), chainsOf(withAt(voyage(2, 50, 2, 3, 2, 3), at, bad)), false)
		}
	}
}

func TestCrewSufficesRefuses(t *testing.T) {
	for _, w := range badCrews() {
		for _, chains := range [][][]impl.Passage{nil, {}, {nil}, chainsOf(voyage(0, 100, 2, 3)), chainsOf(voyage(1, 100, 2, 3))} {
			checkEnough(t, w, chains, false)
		}
	}
	for _, fleet := range append(badFleets(), nil) {
		for ship, s := range fleet {
			p := passageOf(ship, 2, 100, 100+slowMinutes(fullChart(), 2, s))
			if impl.CrewSuffices(wholeCrew(), fullChart(), fleet, chainsOf(chainOf(p))) {
				t.Errorf("a crew suffices for %+v with %+v", p, fleet)
			}
		}
	}
	for _, c := range badCharts() {
		if impl.CrewSuffices(wholeCrew(), c, someShips(6), chainsOf(chainOf(passageOf(0, 0, 100, 130)))) {
			t.Errorf("a crew suffices in %+v", c)
		}
	}
}
