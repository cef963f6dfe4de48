package tests

import (
	"math"
	"slices"
	"testing"

	"loop.example/g00831/impl"
)

func checkCover(t *testing.T, pause int, moves []int, list []impl.Duty, who []int, want bool) {
	t.Helper()
	if got := impl.IsCover(pause, moves, list, who); got != want {
		t.Errorf("IsCover(%d, %v, %+v, %v) is %v", pause, moves, list, who, got)
	}
}

// allDifferent gives n different persons.
func allDifferent(n int) []int {
	var who []int
	for i := range n {
		who = append(who, i)
	}
	return who
}

// togetherSlowly says of every two duties whether one person can perform both.
func togetherSlowly(pause int, moves []int, list []impl.Duty) [][]bool {
	rows := slices.Collect(slices.Chunk(moves, 8))
	pairs := make([][]bool, len(list))
	for i, d := range list {
		for _, e := range list {
			then := e.From-d.To >= pause+rows[d.B][e.A]
			before := d.From-e.To >= pause+rows[e.B][d.A]
			pairs[i] = append(pairs[i], then || before)
		}
	}
	return pairs
}

// coverSlowly looks at the duties of each person.
func coverSlowly(together [][]bool, who []int) bool {
	for i := range who {
		for k := range i {
			if who[i] == who[k] && !together[i][k] {
				return false
			}
		}
	}
	return true
}

// tangle gives duties that begin in the order of the turns, up to eight, and the moves with which one person can perform two of them just if the bit of the pair is set; the pairs are 0 and 1, 0 and 2, 1 and 2, 0 and 3, and so on.
func tangle(pairs int, turns ...int) ([]impl.Duty, []int) {
	moves := evenMoves(240)
	var list []impl.Duty
	for k, turn := range turns {
		for i := range k {
			if pairs&1 == 1 {
				moves[8*i+k], moves[8*k+i] = 0, 0
			}
			pairs /= 2
		}
		list = append(list, dutyOf(20*turn, 20*turn+10, k, k))
	}
	return list, moves
}

func TestIsCover(t *testing.T) {
	moves := impl.StayingMoves()
	list := dutiesOf(dutyOf(0, 30, 0, 1), dutyOf(40, 60, 1, 0), dutyOf(20, 50, 0, 0))
	checkCover(t, 10, moves, list, []int{0, 0, 1}, true)
	checkCover(t, 10, moves, list, []int{0, 1, 2}, true)
	checkCover(t, 10, moves, list, []int{2, 2, 0}, true)
	checkCover(t, 10, moves, list, []int{0, 1, 1}, false)
	checkCover(t, 10, moves, list, []int{0, 1, 0}, false)
	checkCover(t, 10, moves, list, []int{0, 0, 0}, false)
	checkCover(t, 11, moves, list, []int{0, 0, 1}, false)
	checkCover(t, 11, moves, list, []int{1, 0, 2}, true)
	checkCover(t, 9, movesWith(9, 1), list, []int{0, 0, 1}, true)
	checkCover(t, 9, movesWith(9, 2), list, []int{0, 0, 1}, false)
	checkCover(t, 10, impl.StayingMoves(), dutiesInTurn(12), make([]int, 12), true)
	checkCover(t, 41, impl.StayingMoves(), dutiesInTurn(12), make([]int, 12), false)
	checkCover(t, 41, impl.StayingMoves(), dutiesInTurn(12), []int{0, 1, 0, 1, 0, 1, 0, 1, 0, 1, 0, 1}, true)
}

func TestIsCoverWithoutDuties(t *testing.T) {
	for _, list := range [][]impl.Duty{nil, {}} {
		for _, who := range [][]int{nil, {}} {
			checkCover(t, 0, impl.StayingMoves(), list, who, true)
			checkCover(t, 2880, evenMoves(240), list, who, true)
		}
		for _, person := range numbersAround(1) {
			checkCover(t, 0, impl.StayingMoves(), list, []int{person}, false)
		}
	}
}

func TestIsCoverOfOtherNumbersOfPersons(t *testing.T) {
	for n := range 14 {
		for persons := range 20 {
			checkCover(t, 0, impl.StayingMoves(), dutiesInTurn(n), make([]int, persons), n <= 12 && persons == n)
		}
		checkCover(t, 0, impl.StayingMoves(), dutiesAtOnce(n), allDifferent(n), n <= 12)
		checkCover(t, 0, impl.StayingMoves(), dutiesInTurn(n), allDifferent(n), n <= 12)
		checkCover(t, 0, impl.StayingMoves(), dutiesInTurn(n), allDifferent(n+1), false)
	}
}

func TestIsCoverOfEveryPerson(t *testing.T) {
	for n := 1; n <= 12; n++ {
		for i := range n {
			for _, person := range numbersAround(n) {
				who := make([]int, n)
				who[i] = person
				checkCover(t, 0, impl.StayingMoves(), dutiesInTurn(n), who, within(person, 0, n-1))
			}
		}
	}
}

// Of two duties of one person, either may be the earlier one in the list.
func TestIsCoverInBothOrders(t *testing.T) {
	early, late := dutyOf(100, 200, 3, 1), dutyOf(210, 300, 2, 4)
	for _, moves := range [][]int{impl.StayingMoves(), movesWith(10, 10), movesWith(35, 240)} {
		checkFollow(t, 0, moves, early, late, true)
		checkFollow(t, 0, moves, late, early, false)
		checkCover(t, 0, moves, dutiesOf(early, late), []int{0, 0}, true)
		checkCover(t, 0, moves, dutiesOf(late, early), []int{0, 0}, true)
		checkCover(t, 0, moves, dutiesOf(late, dutyOf(0, 2880, 0, 0), early), []int{2, 1, 2}, true)
	}
	for _, moves := range [][]int{movesWith(10, 11), evenMoves(240)} {
		checkCover(t, 0, moves, dutiesOf(early, late), []int{0, 0}, false)
		checkCover(t, 0, moves, dutiesOf(late, early), []int{0, 0}, false)
		checkCover(t, 0, moves, dutiesOf(late, early), []int{1, 0}, true)
	}
}

// The first duty can be followed by the second and this by the third, but the direct move from the first to the third takes too long.
func TestIsCoverOfThreeDuties(t *testing.T) {
	list := dutiesOf(dutyOf(0, 10, 0, 1), dutyOf(20, 30, 2, 3), dutyOf(40, 50, 4, 5))
	for _, order := range ordersOf([]int{0, 1, 2}) {
		var mixed []impl.Duty
		for _, i := range order {
			mixed = append(mixed, list[i])
		}
		checkCover(t, 10, impl.StayingMoves(), mixed, []int{0, 0, 0}, true)
		checkCover(t, 10, movesWith(12, 20), mixed, []int{0, 0, 0}, true)
		checkCover(t, 10, movesWith(12, 21), mixed, []int{0, 0, 0}, false)
		for i := range 3 {
			who := []int{1, 1, 1}
			who[slices.Index(order, i)] = 2
			checkCover(t, 10, movesWith(12, 21), mixed, who, i != 1)
		}
	}
}

// One pair that one person cannot perform spoils a cover, wherever it is.
func TestIsCoverOfEveryPair(t *testing.T) {
	const all = 1<<28 - 1
	for bit := range 28 {
		for _, turns := range [][]int{{0, 1, 2, 3, 4, 5, 6, 7}, {7, 6, 5, 4, 3, 2, 1, 0}, {3, 0, 7, 1, 6, 2, 5, 4}} {
			list, moves := tangle(all, turns...)
			checkCover(t, 0, moves, list, make([]int, 8), true)
			list, moves = tangle(all&^(1<<bit), turns...)
			checkCover(t, 0, moves, list, make([]int, 8), false)
			list, moves = tangle(1<<bit, turns...)
			for k := range 8 {
				for i := range k {
					who := allDifferent(8)
					who[k] = who[i]
					checkCover(t, 0, moves, list, who, k*(k-1)/2+i == bit)
				}
			}
		}
	}
}

func TestIsCoverOfEveryList(t *testing.T) {
	for n := range 5 {
		covers := beginsOf([]int{-1, 0, 1, 2, 3, 4}, n)
		for pairs := range 1 << (n * (n - 1) / 2) {
			list, moves := tangle(pairs, []int{2, 0, 3, 1}[:n]...)
			together := togetherSlowly(0, moves, list)
			for _, who := range covers {
				fits := !slices.ContainsFunc(who, func(person int) bool { return !within(person, 0, n-1) })
				checkCover(t, 0, moves, list, who, fits && coverSlowly(together, who))
			}
		}
	}
}

func TestIsCoverRefuses(t *testing.T) {
	for _, list := range badDutyLists() {
		checkCover(t, 0, impl.StayingMoves(), list, allDifferent(len(list)), false)
		checkCover(t, 0, impl.StayingMoves(), list, make([]int, len(list)), false)
		checkCover(t, -1, nil, list, allDifferent(len(list)), false)
	}
	for _, person := range []int{math.MinInt, -1, 1, math.MaxInt} {
		checkCover(t, 0, impl.StayingMoves(), dutiesInTurn(1), []int{person}, false)
	}
}

// checkOnlyDifferent checks that no two duties have the same person with a pause or moves that are not valid: no duty can follow another then.
func checkOnlyDifferent(t *testing.T, pause int, moves []int) {
	t.Helper()
	checkCover(t, pause, moves, nil, nil, true)
	checkCover(t, pause, moves, dutiesInTurn(1), []int{0}, true)
	checkCover(t, pause, moves, dutiesInTurn(2), []int{1, 0}, true)
	checkCover(t, pause, moves, dutiesInTurn(2), []int{1, 1}, false)
	checkCover(t, pause, moves, dutiesInTurn(12), allDifferent(12), true)
	checkCover(t, pause, moves, dutiesInTurn(12), make([]int, 12), false)
	checkCover(t, pause, moves, dutiesOf(dutyOf(0, 1, 0, 0), dutyOf(2879, 2880, 0, 0)), []int{0, 0}, false)
	checkCover(t, pause, moves, dutiesOf(dutyOf(0, 1, 0, 0), dutyOf(2879, 2880, 0, 0)), []int{0, 2}, false)
}

func TestIsCoverWithoutPauseOrMoves(t *testing.T) {
	for _, pause := range badPauses() {
		checkOnlyDifferent(t, pause, impl.StayingMoves())
	}
	for _, moves := range badMoves() {
		checkOnlyDifferent(t, 0, moves)
		checkOnlyDifferent(t, -1, moves)
	}
}
