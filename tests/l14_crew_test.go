package tests

import (
	"math"
	"testing"

	"loop.example/g00831/impl"
)

func crewOf(tugs int, pilots int, rest int, moves []int) impl.Crew {
	return impl.Crew{Tugs: tugs, Pilots: pilots, Rest: rest, Moves: moves}
}

// wholeCrew has as many tugs and pilots as there may be, who need no time.
func wholeCrew() impl.Crew { return crewOf(12, 12, 0, impl.StayingMoves()) }

func goodCrews() []impl.Crew {
	return []impl.Crew{wholeCrew(), crewOf(0, 0, 0, impl.StayingMoves()), crewOf(1, 2, 30, crookedMoves()), crewOf(12, 0, 2880, evenMoves(240)), crewOf(0, 12, 1, movesWith(63, 240))}
}

// badCrews gives crews that are valid but for one field, and the crew whose fields are all zero values.
func badCrews() []impl.Crew {
	list := []impl.Crew{{}, crewOf(-1, -1, -1, nil), crewOf(13, 13, 2881, evenMoves(241))}
	for _, n := range []int{math.MinInt, math.MinInt + 1, -12, -1, 13, 14, math.MaxInt - 1, math.MaxInt} {
		list = append(list, crewOf(n, 12, 30, impl.StayingMoves()), crewOf(12, n, 30, impl.StayingMoves()), crewOf(n, 0, 0, crookedMoves()), crewOf(0, n, 0, crookedMoves()))
	}
	for _, rest := range badPauses() {
		list = append(list, crewOf(12, 12, rest, impl.StayingMoves()), crewOf(0, 0, rest, impl.StayingMoves()))
	}
	for _, moves := range badMoves() {
		list = append(list, crewOf(12, 12, 0, moves))
	}
	return list
}

func checkCrewOk(t *testing.T, w impl.Crew, want bool) {
	t.Helper()
	if got := impl.CrewOk(w); got != want {
		t.Errorf("CrewOk(%+v) is %v", w, got)
	}
}

func TestCrewOk(t *testing.T) {
	for _, w := range goodCrews() {
		checkCrewOk(t, w, true)
	}
	for _, w := range badCrews() {
		checkCrewOk(t, w, false)
	}
}

func TestCrewOkOfEveryNumber(t *testing.T) {
	for _, tugs := range numbersAround(12) {
		for _, pilots := range numbersAround(12) {
			checkCrewOk(t, crewOf(tugs, pilots, 30, crookedMoves()), within(tugs, 0, 12) && within(pilots, 0, 12))
		}
	}
}

func TestCrewOkOfEveryRest(t *testing.T) {
	for _, rest := range append(minutesAround(), append(endsAround(0, 2880), badPauses()...)...) {
		for _, n := range []int{0, 1, 12} {
			checkCrewOk(t, crewOf(n, n, rest, evenMoves(240)), within(rest, 0, 2880))
			checkCrewOk(t, crewOf(n, 13, rest, evenMoves(240)), false)
		}
	}
}

func TestCrewOkOfEveryNumberOfMoves(t *testing.T) {
	for n := range 200 {
		checkCrewOk(t, crewOf(1, 2, 30, make([]int, n)), n == 64)
	}
	checkCrewOk(t, crewOf(1, 2, 30, nil), false)
	checkCrewOk(t, crewOf(1, 2, 30, crookedMoves()[:63]), false)
	checkCrewOk(t, crewOf(1, 2, 30, append(crookedMoves(), 0)), false)
}

func TestCrewOkOfEveryMove(t *testing.T) {
	for place := range 64 {
		for _, minutes := range append(endsAround(0, 240), 100) {
			checkCrewOk(t, crewOf(1, 2, 30, movesWith(place, minutes)), within(minutes, 0, 240))
		}
	}
}
