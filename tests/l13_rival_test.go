package tests

import (
	"slices"
	"testing"

	"loop.example/g00831/impl"
)

func checkRivals(t *testing.T, pause int, moves []int, list []impl.Duty, want ...int) {
	t.Helper()
	if got := impl.RivalDuties(pause, moves, list); !slices.Equal(got, want) {
		t.Errorf("RivalDuties(%d, %v, %+v) is %v, want %v", pause, moves, list, got, want)
	}
}

func TestRivalDuties(t *testing.T) {
	list := dutiesOf(dutyOf(0, 30, 0, 1), dutyOf(40, 60, 1, 0), dutyOf(20, 50, 0, 0))
	checkRivals(t, 10, impl.StayingMoves(), list, 0, 2)
	checkRivals(t, 11, impl.StayingMoves(), list, 0, 1, 2)
	checkRivals(t, 10, movesWith(9, 1), list, 0, 1, 2)
	checkRivals(t, 9, movesWith(9, 1), list, 0, 2)
	checkRivals(t, 10, movesWith(8, 240), list, 0, 2)
	checkRivals(t, 2880, evenMoves(240), list, 0, 1, 2)
}

func TestRivalDutiesOfEveryNumber(t *testing.T) {
	for n := range 30 {
		if n == 0 || n > 12 {
			checkRivals(t, 0, impl.StayingMoves(), dutiesInTurn(n))
			checkRivals(t, 0, impl.StayingMoves(), dutiesAtOnce(n))
			checkRivals(t, 2880, evenMoves(240), dutiesAtOnce(n))
			continue
		}
		checkRivals(t, 0, impl.StayingMoves(), dutiesInTurn(n), 0)
		checkRivals(t, 40, impl.StayingMoves(), dutiesInTurn(n), 0)
		checkRivals(t, 41, impl.StayingMoves(), dutiesInTurn(n), allDifferent(min(n, 2))...)
		checkRivals(t, 2880, impl.StayingMoves(), dutiesInTurn(n), allDifferent(n)...)
		checkRivals(t, 0, impl.StayingMoves(), dutiesAtOnce(n), allDifferent(n)...)
	}
	for _, d := range goodDuties() {
		checkRivals(t, 0, impl.StayingMoves(), dutiesOf(d), 0)
		checkRivals(t, 0, impl.StayingMoves(), dutiesOf(d, d, d), 0, 1, 2)
	}
}

// Of several greatest sets the lexicographically least one counts, and a greater set before a lesser list.
func TestRivalDutiesOfSeveral(t *testing.T) {
	early, late, later := dutyOf(0, 20, 0, 0), dutyOf(100, 120, 0, 0), dutyOf(200, 220, 0, 0)
	moves := impl.StayingMoves()
	checkRivals(t, 0, moves, dutiesOf(early, early, late, late), 0, 1)
	checkRivals(t, 0, moves, dutiesOf(late, early, early, late), 0, 3)
	checkRivals(t, 0, moves, dutiesOf(early, late, early, late), 0, 2)
	checkRivals(t, 0, moves, dutiesOf(early, late, late), 1, 2)
	checkRivals(t, 0, moves, dutiesOf(early, early, late, late, late), 2, 3, 4)
	checkRivals(t, 0, moves, dutiesOf(early, late, early, late, later, late), 1, 3, 5)
	checkRivals(t, 0, moves, dutiesOf(early, late, later, later, late, early), 0, 5)
	checkRivals(t, 0, moves, dutiesOf(later, late, later, late, early), 0, 2)
	checkRivals(t, 0, moves, dutiesOf(early, late, later), 0)
	checkRivals(t, 0, moves, dutiesOf(early, late, dutyOf(10, 105, 0, 0)), 0, 2)
	checkRivals(t, 0, moves, dutiesOf(dutyOf(10, 105, 0, 0), late, early), 0, 1)
	checkRivals(t, 80, moves, dutiesOf(later, early, late), 0)
	checkRivals(t, 81, moves, dutiesOf(later, early, late), 0, 2)
	checkRivals(t, 180, moves, dutiesOf(later, early, late), 0, 2)
	checkRivals(t, 181, moves, dutiesOf(later, early, late), 0, 1, 2)
}

// In a ring of five, some two of every three duties can go together, but never all three: three persons for two rivals.
func TestRivalDutiesOfARing(t *testing.T) {
	const ring = 1<<0 | 1<<2 | 1<<5 | 1<<9 | 1<<6
	for _, turns := range [][]int{{0, 1, 2, 3, 4}, {4, 3, 2, 1, 0}, {2, 4, 0, 3, 1}} {
		list, moves := tangle(ring, turns...)
		checkRivals(t, 0, moves, list, 0, 2)
		checkLeastCover(t, 0, moves, list, 3, 0, 0, 1, 1, 2)
		list, moves = tangle(ring, append(slices.Clone(turns), 5)...)
		checkRivals(t, 0, moves, list, 0, 2, 5)
		checkLeastCover(t, 0, moves, list, 4, 0, 0, 1, 1, 2, 3)
		list, moves = tangle(ring|1<<1, turns...)
		checkRivals(t, 0, moves, list, 0, 3)
		checkLeastCover(t, 0, moves, list, 2, 0, 0, 0, 1, 1)
	}
}

// rivalsSlowly looks at all sets of duties.
func rivalsSlowly(together [][]bool) []int {
	var most []int
	for set := range 1 << len(together) {
		var list []int
		for i := range together {
			if set>>i&1 == 1 {
				list = append(list, i)
			}
		}
		greater := len(list) > len(most) || len(list) == len(most) && slices.Compare(list, most) < 0
		if greater && areRivals(together, list) {
			most = list
		}
	}
	return most
}

func areRivals(together [][]bool, list []int) bool {
	for n, k := range list {
		for _, i := range list[:n] {
			if together[i][k] {
				return false
			}
		}
	}
	return true
}

// Every way in which up to six duties can go with each other; the order of their times makes no difference.
func TestRivalDutiesOfEveryTangle(t *testing.T) {
	for n := range 7 {
		for pairs := range 1 << (n * (n - 1) / 2) {
			list, moves := tangle(pairs, allDifferent(n)...)
			want := rivalsSlowly(togetherSlowly(0, moves, list))
			checkRivals(t, 0, moves, list, want...)
			list, moves = tangle(pairs, []int{3, 0, 5, 1, 4, 2}[:n]...)
			checkRivals(t, 0, moves, list, want...)
		}
	}
}

// personsAboveRivals checks that no two rivals have the same person in the least cover, and gives by how much the persons are more than the rivals.
func personsAboveRivals(t *testing.T, pause int, moves []int, list []impl.Duty) int {
	t.Helper()
	rivals := rivalsSlowly(togetherSlowly(pause, moves, list))
	checkRivals(t, pause, moves, list, rivals...)
	who, persons, _ := impl.LeastCover(pause, moves, list)
	var theirs []int
	for _, i := range rivals {
		theirs = append(theirs, who[i])
	}
	if differentIn(theirs) < len(rivals) || persons < len(rivals) {
		t.Errorf("the rivals %v of %+v have the persons %v of %d", rivals, list, theirs, persons)
	}
	return persons - len(rivals)
}

func TestRivalsNeedDifferentPersons(t *testing.T) {
	above := map[int]int{}
	for seed := range 60 {
		for n := range 13 {
			for _, moves := range waysToMove() {
				above[personsAboveRivals(t, seed%4*10, moves, crowdedDuties(seed, n))]++
			}
		}
	}
	for seed := range 400 {
		list, moves := mixedTangle(seed)
		above[personsAboveRivals(t, 0, moves, list)]++
	}
	if above[0] < 1000 || above[1] < 10 {
		t.Errorf("the persons are more than the rivals this often: %v", above)
	}
}

func TestNoCoverHasFewerPersonsThanRivals(t *testing.T) {
	divisions := divisionsOf(6)
	for pairs := range 1 << 15 {
		if pairs%37 > 0 {
			continue
		}
		list, moves := tangle(pairs, 5, 2, 4, 0, 1, 3)
		rivals := impl.RivalDuties(0, moves, list)
		for _, who := range divisions {
			if impl.IsCover(0, moves, list, who) && differentIn(who) < len(rivals) {
				t.Errorf("the cover %v of the tangle %d has fewer persons than the rivals %v", who, pairs, rivals)
			}
		}
	}
}

// Without ways between the points, or where all ways take the same time, the least number of persons is the greatest number of rivals.
func TestCoversWithoutWays(t *testing.T) {
	for seed := range 300 {
		for n := range 13 {
			list := crowdedDuties(seed, n)
			for _, minutes := range []int{0, 17, 240} {
				rivals := impl.RivalDuties(seed%50, evenMoves(minutes), list)
				who, persons, ok := impl.LeastCover(seed%50, evenMoves(minutes), list)
				if !ok || persons != len(rivals) || differentIn(who) != persons {
					t.Errorf("LeastCover(%d, .., %+v) is %v, %d, %v, but RivalDuties is %v", seed%50, list, who, persons, ok, rivals)
				}
				checkCover(t, seed%50, evenMoves(minutes), list, who, true)
			}
		}
	}
}

func TestRivalDutiesRefuses(t *testing.T) {
	for _, list := range badDutyLists() {
		checkRivals(t, 0, impl.StayingMoves(), list)
		checkRivals(t, -1, nil, list)
	}
	for _, list := range [][]impl.Duty{nil, {}, dutiesInTurn(1), dutiesInTurn(12), dutiesAtOnce(12)} {
		for _, pause := range badPauses() {
			checkRivals(t, pause, impl.StayingMoves(), list)
		}
		for _, moves := range badMoves() {
			checkRivals(t, 0, moves, list)
			checkRivals(t, 2880, moves, list)
		}
	}
}
