package tests

import (
	"math"
	"slices"
	"testing"

	"loop.example/g00831/impl"
)

// evenMoves gives the table with the same time in all places.
func evenMoves(minutes int) []int { return slices.Repeat([]int{minutes}, 64) }

// crookedMoves gives a table whose times are all different, so that no way back takes the time of the way there.
func crookedMoves() []int {
	var moves []int
	for i := range 64 {
		moves = append(moves, (i*89+17)%241)
	}
	return moves
}

func movesWith(place int, minutes int) []int {
	moves := impl.StayingMoves()
	moves[place] = minutes
	return moves
}

// badMoves gives tables of other numbers of elements, and an element that is not valid at each place among valid ones.
func badMoves() [][]int {
	list := [][]int{nil, {}, {0}, make([]int, 8), make([]int, 63), make([]int, 65), make([]int, 128), evenMoves(-1), evenMoves(241)}
	for place := range 64 {
		for _, minutes := range []int{math.MinInt, -240, -1, 241, math.MaxInt} {
			crooked := crookedMoves()
			crooked[place] = minutes
			list = append(list, crooked, movesWith(place, minutes))
		}
	}
	return list
}

func badPauses() []int {
	return []int{math.MinInt, math.MinInt + 1, -2880, -240, -2, -1, 2881, 2882, math.MaxInt - 240, math.MaxInt - 1, math.MaxInt}
}

func checkGap(t *testing.T, pause int, moves []int, d impl.Duty, e impl.Duty, want int) {
	t.Helper()
	if got, ok := impl.Gap(pause, moves, d, e); got != want || !ok {
		t.Errorf("Gap(%d, %v, %+v, %+v) is %d, %v, want %d", pause, moves, d, e, got, ok, want)
	}
}

func checkNoGap(t *testing.T, pause int, moves []int, d impl.Duty, e impl.Duty) {
	t.Helper()
	if got, ok := impl.Gap(pause, moves, d, e); got != 0 || ok {
		t.Errorf("Gap(%d, %v, %+v, %+v) is %d, %v", pause, moves, d, e, got, ok)
	}
}

func TestGap(t *testing.T) {
	d, e := dutyOf(0, 30, 0, 1), dutyOf(40, 60, 2, 3)
	checkGap(t, 10, impl.StayingMoves(), d, e, 10)
	checkGap(t, 10, movesWith(10, 5), d, e, 15)
	checkGap(t, 0, movesWith(10, 240), d, e, 240)
	checkGap(t, 2880, movesWith(10, 240), d, e, 3120)
	checkGap(t, 10, movesWith(17, 5), d, e, 10)
	checkGap(t, 10, movesWith(10, 5), e, d, 10)
	checkGap(t, 10, movesWith(24, 5), e, d, 15)
	checkGap(t, 10, movesWith(8, 7), d, d, 17)
}

// The row is the point where the first duty ends, and the column the one where the second begins.
func TestGapOfEveryPoint(t *testing.T) {
	rows := slices.Collect(slices.Chunk(crookedMoves(), 8))
	for _, b := range numbersAround(8) {
		for _, a := range numbersAround(8) {
			d, e := dutyOf(0, 30, 2, b), dutyOf(40, 60, a, 6)
			if within(b, 0, 7) && within(a, 0, 7) {
				checkGap(t, 20, crookedMoves(), d, e, 20+rows[b][a])
				continue
			}
			checkNoGap(t, 20, crookedMoves(), d, e)
			checkNoGap(t, 0, impl.StayingMoves(), d, e)
		}
	}
}

func TestGapOfEveryPause(t *testing.T) {
	d, e := dutyOf(0, 30, 0, 7), dutyOf(40, 60, 7, 0)
	for _, pause := range append(endsAround(0, 2880), badPauses()...) {
		if within(pause, 0, 2880) {
			checkGap(t, pause, impl.StayingMoves(), d, e, pause)
			checkGap(t, pause, movesWith(63, 240), d, e, pause+240)
			continue
		}
		checkNoGap(t, pause, impl.StayingMoves(), d, e)
		checkNoGap(t, pause, evenMoves(240), d, e)
	}
}

func TestGapOfEveryNumberOfMoves(t *testing.T) {
	first, last := dutyOf(0, 30, 0, 0), dutyOf(40, 60, 7, 7)
	for n := range 200 {
		for _, d := range dutiesOf(first, last) {
			if n == 64 {
				checkGap(t, 10, make([]int, n), d, d, 10)
			} else {
				checkNoGap(t, 10, make([]int, n), d, d)
			}
		}
	}
	checkNoGap(t, 10, nil, first, last)
	checkNoGap(t, 10, crookedMoves()[:63], first, first)
	checkNoGap(t, 10, append(crookedMoves(), 0), first, first)
}

// An element that is not valid spoils the table for all points.
func TestGapOfEveryElement(t *testing.T) {
	for place := range 64 {
		there := []impl.Duty{dutyOf(0, 30, 0, place/8), dutyOf(40, 60, place%8, 0)}
		other := []impl.Duty{dutyOf(0, 30, 0, (place/8+1)%8), dutyOf(40, 60, place%8, 0)}
		for _, minutes := range endsAround(0, 240) {
			moves := movesWith(place, minutes)
			if within(minutes, 0, 240) {
				checkGap(t, 10, moves, there[0], there[1], 10+minutes)
				checkGap(t, 10, moves, other[0], other[1], 10)
				continue
			}
			checkNoGap(t, 10, moves, there[0], there[1])
			checkNoGap(t, 10, moves, other[0], other[1])
		}
	}
}

func TestGapRefuses(t *testing.T) {
	d, e := dutyOf(0, 30, 0, 1), dutyOf(40, 60, 2, 3)
	for _, moves := range badMoves() {
		for _, pause := range []int{-1, 0, 10, 2880, 2881} {
			checkNoGap(t, pause, moves, d, e)
			checkNoGap(t, pause, moves, e, d)
		}
	}
}

// The minutes of the duties, the beginning of the first and the end of the second are not looked at.
func TestGapOfDutiesThatAreNotValid(t *testing.T) {
	for _, from := range minutesAround() {
		for _, to := range minutesAround() {
			for _, point := range []int{math.MinInt, -1, 0, 8, math.MaxInt} {
				checkGap(t, 10, movesWith(10, 5), dutyOf(from, to, point, 1), dutyOf(to, from, 2, point), 15)
				checkGap(t, 10, movesWith(10, 5), dutyOf(to, from, point, 1), dutyOf(from, from, 2, point), 15)
			}
		}
	}
	checkGap(t, 10, movesWith(0, 5), impl.Duty{}, impl.Duty{}, 15)
}

func TestStayingMoves(t *testing.T) {
	first := impl.StayingMoves()
	if !slices.Equal(first, evenMoves(0)) {
		t.Errorf("StayingMoves is %v", first)
	}
	spoilInts(first)
	second := impl.StayingMoves()
	if !slices.Equal(second, evenMoves(0)) {
		t.Errorf("StayingMoves is %v after a change of an earlier result", second)
	}
	spoilInts(impl.StayingMoves())
	if !slices.Equal(second, evenMoves(0)) {
		t.Errorf("StayingMoves has become %v after a change of a later result", second)
	}
	checkGap(t, 10, second, dutyOf(0, 30, 0, 7), dutyOf(40, 60, 7, 0), 10)
}
