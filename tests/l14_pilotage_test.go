package tests

import (
	"slices"
	"testing"

	"loop.example/g00831/impl"
)

func checkPilotsNeeded(t *testing.T, w impl.Crew, chains [][]impl.Passage, want int) {
	t.Helper()
	if got := impl.PilotsNeeded(w, fullChart(), someShips(6), chains); got != want {
		t.Errorf("PilotsNeeded with %+v for %+v is %d, want %d", w, chains, got, want)
	}
}

func chainsOf(list ...[]impl.Passage) [][]impl.Passage { return list }

// pilotsSlowly gives the least number of pilots for a valid crew.
func pilotsSlowly(w impl.Crew, chains [][]impl.Passage) int {
	var duties []impl.Duty
	for _, chain := range chains {
		if len(chain) == 0 {
			continue
		}
		d, ok := pilotDutySlowly(chain)
		if !ok {
			return -1
		}
		duties = append(duties, d)
	}
	if len(duties) > 12 {
		return -1
	}
	return fewestSlowly(togetherSlowly(w.Rest, w.Moves, duties))
}

// chainsInTurn gives n chains of 40 minutes with 20 minutes between them, of all ships that are not slow.
func chainsInTurn(n int) [][]impl.Passage {
	var chains [][]impl.Passage
	for i := range n {
		chains = append(chains, voyage(i%3*2, 60*i, 2, 3, 4))
	}
	return chains
}

func chainsAtOnce(n int) [][]impl.Passage { return slices.Repeat(chainsOf(voyage(4, 100, 2, 3, 4)), n) }

// amongEmpty puts n chains without passages before, between and behind the others.
func amongEmpty(n int, chains [][]impl.Passage) [][]impl.Passage {
	mixed := make([][]impl.Passage, n)
	for _, chain := range chains {
		mixed = append(mixed, chain)
		for i := range n {
			mixed = append(mixed, [][]impl.Passage{nil, {}}[i%2])
		}
	}
	return mixed
}

func TestPilotsNeeded(t *testing.T) {
	w := crewOf(0, 0, 20, impl.StayingMoves())
	checkPilotsNeeded(t, w, chainsOf(voyage(4, 100, 2, 3, 4)), 1)
	checkPilotsNeeded(t, w, chainsOf(voyage(4, 100, 2, 3, 4), voyage(0, 160, 2, 3)), 1)
	checkPilotsNeeded(t, w, chainsOf(voyage(4, 100, 2, 3, 4), voyage(0, 159, 2, 3)), 2)
	checkPilotsNeeded(t, w, chainsOf(voyage(4, 100, 2, 3, 4), voyage(4, 100, 2, 3, 4)), 2)
	checkPilotsNeeded(t, w, chainsOf(voyage(4, 100, 2, 3), voyage(4, 120, 3, 4)), 2)
	checkPilotsNeeded(t, w, chainsOf(voyage(4, 100, 2, 3), voyage(4, 140, 3, 4)), 1)
	checkPilotsNeeded(t, w, chainsInTurn(5), 1)
	checkPilotsNeeded(t, w, append(chainsInTurn(5), voyage(0, 30, 0, 3)), 2)
	checkPilotsNeeded(t, crewOf(0, 0, 21, impl.StayingMoves()), chainsInTurn(5), 2)
}

func TestPilotsNeededWithoutChains(t *testing.T) {
	for _, w := range goodCrews() {
		checkPilotsNeeded(t, w, nil, 0)
		checkPilotsNeeded(t, w, chainsOf(), 0)
		for _, n := range []int{1, 2, 12, 13, 300} {
			checkPilotsNeeded(t, w, amongEmpty(n, nil), 0)
			checkPilotsNeeded(t, w, slices.Repeat(chainsOf(chainOf()), n), 0)
		}
	}
	for _, c := range append(goodCharts(), badCharts()...) {
		if got := impl.PilotsNeeded(wholeCrew(), c, nil, chainsOf(nil, nil)); got != 0 {
			t.Errorf("PilotsNeeded for empty chains in %+v is %d", c, got)
		}
	}
	for _, fleet := range badFleets() {
		if got := impl.PilotsNeeded(wholeCrew(), fullChart(), fleet, chainsOf(nil)); got != 0 {
			t.Errorf("PilotsNeeded for an empty chain with %+v is %d", fleet, got)
		}
	}
}

func TestPilotsNeededAmongEmptyChains(t *testing.T) {
	for _, empty := range []int{0, 1, 2, 13, 100} {
		for n := range 20 {
			turn, once, mixed := min(n, 1), n, min(n, 2)
			if n > 12 {
				turn, once, mixed = -1, -1, -1
			}
			checkPilotsNeeded(t, wholeCrew(), amongEmpty(empty, chainsInTurn(n)), turn)
			checkPilotsNeeded(t, wholeCrew(), amongEmpty(empty, chainsAtOnce(n)), once)
			checkPilotsNeeded(t, crewOf(0, 0, 21, impl.StayingMoves()), amongEmpty(empty, chainsInTurn(n)), mixed)
		}
	}
}

// A pilot rests and comes from the point at which the first chain ends to the one at which the second begins.
func TestPilotsNeededBetweenChains(t *testing.T) {
	rows := slices.Collect(slices.Chunk(crookedMoves(), 8))
	ways := [][]int{{0, 1}, {1, 0}, {0, 1, 2}, {2, 1, 0}, {7, 6, 2, 3}, {3, 2, 6, 7}, {5, 4, 3, 0}, {4, 5, 4}}
	for _, rest := range []int{0, 1, 30, 500} {
		w := crewOf(0, 0, rest, crookedMoves())
		for _, first := range ways {
			for _, second := range ways {
				a := voyage(2, 100, first...)
				ready := a[len(a)-1].End + rest + rows[first[len(first)-1]][second[0]]
				for more := -1; more <= 1; more++ {
					b := voyage(4, ready+more, second...)
					want := 1
					if more < 0 {
						want = 2
					}
					checkPilotsNeeded(t, w, chainsOf(a, b), want)
					checkPilotsNeeded(t, w, chainsOf(b, nil, a), want)
				}
			}
		}
	}
}

// A chain takes its pilot from its first passage to its last one, also while the ship waits.
func TestPilotsNeededWhileAShipWaits(t *testing.T) {
	waiting := append(voyage(2, 100, 0, 1), voyage(2, 1000, 1, 2)...)
	for _, start := range []int{0, 99, 100, 101, 102, 600, 1000, 1239, 1240, 2000} {
		want := 2
		if start+20 <= 100 || start >= 1240 {
			want = 1
		}
		checkPilotsNeeded(t, wholeCrew(), chainsOf(waiting, voyage(4, start, 2, 3)), want)
		checkPilotsNeeded(t, wholeCrew(), chainsOf(waiting[:1], waiting[1:], voyage(4, min(max(start, 101), 980), 2, 3)), 1)
	}
}

// How many tugs and pilots there are makes no difference to how many pilots are needed.
func TestPilotsNeededOfEveryCrew(t *testing.T) {
	for tugs := range 13 {
		for pilots := range 13 {
			checkPilotsNeeded(t, crewOf(tugs, pilots, 0, impl.StayingMoves()), chainsAtOnce(3), 3)
			checkPilotsNeeded(t, crewOf(tugs, pilots, 21, impl.StayingMoves()), chainsInTurn(12), 2)
			checkPilotsNeeded(t, crewOf(tugs, pilots, 2880, evenMoves(240)), chainsInTurn(12), 12)
		}
	}
}

// crowdedChains gives n chains by all ships, of which many meet, in no order of their times; some have no passage.
func crowdedChains(seed int, n int) [][]impl.Passage {
	ways := [][]int{{0, 1}, {4, 3, 2}, {7, 6, 2, 3}, {2}, {5, 0, 1}, {3, 4, 5}, {6, 7}}
	var chains [][]impl.Passage
	for i := range n {
		chains = append(chains, voyage((seed+i)%6, (seed*131+i*i*197+61*i*seed)%700, ways[(seed+i*i+i)%7]...))
	}
	return chains
}

// The numbers are least, and those of the least cover of the duties with the pause.
func TestPilotsNeededOfManyChains(t *testing.T) {
	several := 0
	for seed := range 60 {
		for n := range 13 {
			for i, moves := range waysToMove() {
				w, chains := crewOf(3, 2, seed%4*7, moves), crowdedChains(seed*4+i, n)
				want := pilotsSlowly(w, chains)
				checkPilotsNeeded(t, w, chains, want)
				var duties []impl.Duty
				for _, chain := range chains {
					if d, ok := impl.PilotDuty(fullChart(), someShips(6), chain); ok {
						duties = append(duties, d)
					}
				}
				_, persons, _ := impl.LeastCover(w.Rest, moves, duties)
				checkPilotsNeeded(t, w, chains, persons)
				if want > 2 {
					several++
				}
			}
		}
	}
	if several < 200 {
		t.Errorf("more than two pilots are needed only %d times", several)
	}
}

// badChains gives lists that are no chain or have a passage that is not valid.
func badChains() [][]impl.Passage {
	good := voyage(2, 100, 0, 1, 2, 3)
	chains := chainsOf(chainOf(good[0], good[2]), chainOf(good[1], good[0]), chainOf(good[0], good[0]), append(voyage(2, 100, 0, 1), voyage(4, 200, 1, 2)...), append(voyage(2, 100, 0, 1), voyage(2, 100, 1, 2)...))
	for _, bad := range badPassages() {
		chains = append(chains, chainOf(bad), append(voyage(2, 10, 2, 3, 2), bad))
	}
	return chains
}

func TestPilotsNeededRefusesChains(t *testing.T) {
	turns := chainsInTurn(14)
	for _, bad := range badChains() {
		checkPilotsNeeded(t, wholeCrew(), chainsOf(bad), -1)
		checkPilotsNeeded(t, wholeCrew(), chainsOf(nil, bad, nil), -1)
		for _, n := range []int{3, 12, 13, 14} {
			for at := range n {
				checkPilotsNeeded(t, wholeCrew(), withAt(turns[:n], at, bad), -1)
			}
		}
	}
}

func TestPilotsNeededRefuses(t *testing.T) {
	for _, w := range badCrews() {
		for _, chains := range [][][]impl.Passage{nil, {}, {nil}, {{}, {}}, chainsAtOnce(1), chainsInTurn(12)} {
			checkPilotsNeeded(t, w, chains, -1)
		}
	}
	p := passageOf(0, 2, 100, 120)
	for _, c := range badCharts() {
		if got := impl.PilotsNeeded(wholeCrew(), c, someShips(6), chainsOf(chainOf(p))); got != -1 {
			t.Errorf("PilotsNeeded for %+v in %+v is %d", p, c, got)
		}
	}
	for _, fleet := range append(badFleets(), nil) {
		if got := impl.PilotsNeeded(wholeCrew(), fullChart(), fleet, chainsOf(chainOf(p))); got != -1 {
			t.Errorf("PilotsNeeded for %+v with %+v is %d", p, fleet, got)
		}
	}
}
