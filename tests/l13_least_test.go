package tests

import (
	"math/bits"
	"slices"
	"testing"

	"loop.example/g00831/impl"
)

func checkLeastCover(t *testing.T, pause int, moves []int, list []impl.Duty, persons int, want ...int) {
	t.Helper()
	who, n, ok := impl.LeastCover(pause, moves, list)
	if !ok || n != persons || !slices.Equal(who, want) {
		t.Errorf("LeastCover(%d, %v, %+v) is %v, %d, %v, want %v, %d", pause, moves, list, who, n, ok, want, persons)
	}
}

func checkNoLeastCover(t *testing.T, pause int, moves []int, list []impl.Duty) {
	t.Helper()
	if who, n, ok := impl.LeastCover(pause, moves, list); ok || n != 0 || len(who) > 0 {
		t.Errorf("LeastCover(%d, %v, %+v) is %v, %d, %v", pause, moves, list, who, n, ok)
	}
}

// differentIn counts the different numbers of a list.
func differentIn(list []int) int {
	return len(slices.Compact(slices.Sorted(slices.Values(list))))
}

func TestLeastCover(t *testing.T) {
	list := dutiesOf(dutyOf(0, 30, 0, 1), dutyOf(40, 60, 1, 0), dutyOf(20, 50, 0, 0))
	checkLeastCover(t, 10, impl.StayingMoves(), list, 2, 0, 0, 1)
	checkLeastCover(t, 11, impl.StayingMoves(), list, 3, 0, 1, 2)
	checkLeastCover(t, 10, movesWith(9, 1), list, 3, 0, 1, 2)
	checkLeastCover(t, 9, movesWith(9, 1), list, 2, 0, 0, 1)
	checkLeastCover(t, 10, movesWith(8, 240), list, 2, 0, 0, 1)
	checkLeastCover(t, 2880, evenMoves(240), list, 3, 0, 1, 2)
}

func TestLeastCoverOfEveryNumber(t *testing.T) {
	for n := range 13 {
		checkLeastCover(t, 0, impl.StayingMoves(), dutiesInTurn(n), min(n, 1), make([]int, n)...)
		checkLeastCover(t, 40, impl.StayingMoves(), dutiesInTurn(n), min(n, 1), make([]int, n)...)
		checkLeastCover(t, 0, impl.StayingMoves(), dutiesAtOnce(n), n, allDifferent(n)...)
		checkLeastCover(t, 2880, impl.StayingMoves(), dutiesInTurn(n), n, allDifferent(n)...)
		if n > 0 {
			checkLeastCover(t, 41, impl.StayingMoves(), dutiesInTurn(n), min(n, 2), slices.Repeat([]int{0, 1}, 6)[:n]...)
		}
	}
	for n := 13; n < 30; n++ {
		checkNoLeastCover(t, 0, impl.StayingMoves(), dutiesInTurn(n))
		checkNoLeastCover(t, 0, impl.StayingMoves(), dutiesAtOnce(n))
	}
	for _, d := range goodDuties() {
		checkLeastCover(t, 0, impl.StayingMoves(), dutiesOf(d), 1, 0)
		checkLeastCover(t, 2880, evenMoves(240), dutiesOf(d), 1, 0)
		checkLeastCover(t, 0, impl.StayingMoves(), dutiesOf(d, d, d), 3, 0, 1, 2)
	}
	checkLeastCover(t, 2880, evenMoves(240), nil, 0)
	checkLeastCover(t, 0, impl.StayingMoves(), []impl.Duty{}, 0)
}

// The first person could perform the second duty, too, but then the others need three persons in all.
func TestLeastCoverWhereTheFirstPersonFails(t *testing.T) {
	list := dutiesOf(dutyOf(0, 20, 0, 0), dutyOf(30, 50, 0, 0), dutyOf(10, 30, 0, 0), dutyOf(20, 40, 0, 0))
	checkFollow(t, 0, impl.StayingMoves(), list[0], list[1], true)
	checkLeastCover(t, 0, impl.StayingMoves(), list, 2, 0, 1, 1, 0)
	checkLeastCover(t, 0, impl.StayingMoves(), list[:3], 2, 0, 0, 1)
	twice := append(slices.Clone(list), list...)
	for i := 4; i < 8; i++ {
		twice[i].From, twice[i].To = twice[i].From+100, twice[i].To+100
	}
	checkLeastCover(t, 0, impl.StayingMoves(), twice, 2, 0, 1, 1, 0, 0, 1, 1, 0)
	checkLeastCover(t, 50, impl.StayingMoves(), twice, 4, 0, 1, 2, 3, 0, 1, 2, 3)
}

// The last two of twelve duties settle the person of the second one.
func TestLeastCoverGoesBackToTheSecond(t *testing.T) {
	list := dutiesOf(dutyOf(0, 20, 0, 0), dutyOf(30, 50, 0, 0))
	for i := range 8 {
		list = append(list, dutyOf(100+20*i, 120+20*i, 0, 0))
	}
	checkLeastCover(t, 0, impl.StayingMoves(), list, 1, make([]int, 10)...)
	list = append(list, dutyOf(10, 30, 0, 0))
	checkLeastCover(t, 0, impl.StayingMoves(), list, 2, 0, 0, 0, 0, 0, 0, 0, 0, 0, 0, 1)
	list = append(list, dutyOf(20, 40, 0, 0))
	checkLeastCover(t, 0, impl.StayingMoves(), list, 2, 0, 1, 0, 0, 0, 0, 0, 0, 0, 0, 1, 0)
}

// With several least covers, each duty has the least person that leaves a least cover for those behind it.
func TestLeastCoverOfSeveral(t *testing.T) {
	a, b, rival := dutyOf(0, 10, 0, 0), dutyOf(20, 30, 0, 0), dutyOf(5, 15, 0, 0)
	checkCover(t, 0, impl.StayingMoves(), dutiesOf(a, b, rival), []int{0, 1, 1}, true)
	checkCover(t, 0, impl.StayingMoves(), dutiesOf(a, b, rival), []int{0, 0, 1}, true)
	checkCover(t, 0, impl.StayingMoves(), dutiesOf(a, b, rival), []int{1, 1, 0}, true)
	checkLeastCover(t, 0, impl.StayingMoves(), dutiesOf(a, b, rival), 2, 0, 0, 1)
	checkLeastCover(t, 0, impl.StayingMoves(), dutiesOf(a, rival, b), 2, 0, 1, 0)
	checkLeastCover(t, 0, impl.StayingMoves(), dutiesOf(b, a, rival), 2, 0, 0, 1)
	checkLeastCover(t, 0, impl.StayingMoves(), dutiesOf(b, rival, a), 2, 0, 0, 1)
	checkLeastCover(t, 0, impl.StayingMoves(), dutiesOf(rival, a, b), 2, 0, 1, 0)
	checkLeastCover(t, 0, impl.StayingMoves(), dutiesOf(a, rival, b, b), 2, 0, 1, 0, 1)
}

// Each of the pause and one time of the moves changes the cover.
func TestLeastCoverWithPauseAndMoves(t *testing.T) {
	list := dutiesOf(dutyOf(100, 110, 1, 2), dutyOf(0, 10, 3, 4), dutyOf(50, 60, 5, 6))
	checkLeastCover(t, 40, impl.StayingMoves(), list, 1, 0, 0, 0)
	checkLeastCover(t, 41, impl.StayingMoves(), list, 2, 0, 0, 1)
	checkLeastCover(t, 90, impl.StayingMoves(), list, 2, 0, 0, 1)
	checkLeastCover(t, 91, impl.StayingMoves(), list, 3, 0, 1, 2)
	checkLeastCover(t, 30, movesWith(4*8+5, 10), list, 1, 0, 0, 0)
	checkLeastCover(t, 30, movesWith(4*8+5, 11), list, 2, 0, 0, 1)
	checkLeastCover(t, 30, movesWith(6*8+1, 11), list, 2, 0, 0, 1)
	checkLeastCover(t, 30, movesWith(4*8+1, 60), list, 1, 0, 0, 0)
	checkLeastCover(t, 30, movesWith(4*8+1, 61), list, 2, 0, 1, 0)
	checkLeastCover(t, 30, movesWith(5*8+4, 240), list, 1, 0, 0, 0)
	checkLeastCover(t, 30, movesWith(1*8+6, 240), list, 1, 0, 0, 0)
}

// leastSlowly tries all lists of persons in lexicographic order.
func leastSlowly(together [][]bool, lists [][]int) ([]int, int) {
	var least []int
	persons := len(together) + 1
	for _, who := range lists {
		if n := differentIn(who); n < persons && coverSlowly(together, who) {
			least, persons = who, n
		}
	}
	return least, persons
}

// firstPersons gives each duty to the first person that can perform it.
func firstPersons(together [][]bool) []int {
	var who []int
	for i := range together {
		for person := range i + 1 {
			if longer := append(slices.Clone(who), person); coverSlowly(together, longer) {
				who = longer
				break
			}
		}
	}
	return who
}

// Every way in which up to five duties can go with each other; the order of their times makes no difference.
func TestLeastCoverOfEveryTangle(t *testing.T) {
	for n := range 6 {
		lists := beginsOf(allDifferent(n), n)
		for pairs := range 1 << (n * (n - 1) / 2) {
			list, moves := tangle(pairs, allDifferent(n)...)
			who, persons := leastSlowly(togetherSlowly(0, moves, list), lists)
			for _, turns := range [][]int{{0, 1, 2, 3, 4}, {4, 3, 2, 1, 0}, {2, 4, 0, 3, 1}} {
				list, moves := tangle(pairs, turns[:n]...)
				checkLeastCover(t, 0, moves, list, persons, who...)
			}
		}
	}
}

// divisionsOf gives all ways to number n duties in which each new person has the next number, in lexicographic order.
func divisionsOf(n int) [][]int {
	lists := [][]int{nil}
	for range n {
		var longer [][]int
		for _, l := range lists {
			for person := range differentIn(l) + 1 {
				longer = append(longer, append(slices.Clone(l), person))
			}
		}
		lists = longer
	}
	return lists
}

// mixedTangle gives eight duties of which about half of the pairs can go together.
func mixedTangle(seed int) ([]impl.Duty, []int) {
	return tangle(seed*7919*104729%(1<<28)|seed*31, (seed+3)%8, (seed+6)%8, (seed+1)%8, (seed+4)%8, (seed+7)%8, (seed+2)%8, (seed+5)%8, seed%8)
}

// Other numbers for the same persons give no lesser list, so of eight duties only the divisions are tried.
func TestLeastCoverOfEightDuties(t *testing.T) {
	divisions := divisionsOf(8)
	greedy := 0
	for seed := range 400 {
		list, moves := mixedTangle(seed)
		together := togetherSlowly(0, moves, list)
		who, persons := leastSlowly(together, divisions)
		checkLeastCover(t, 0, moves, list, persons, who...)
		if differentIn(firstPersons(together)) > persons {
			greedy++
		}
	}
	if greedy < 20 {
		t.Errorf("the first persons are too many only %d times", greedy)
	}
}

// crowdedDuties gives n duties of which many meet, in no order of their times.
func crowdedDuties(seed int, n int) []impl.Duty {
	var list []impl.Duty
	for i := range n {
		from := (seed*131 + i*i*197 + 61*i*seed) % 500
		list = append(list, dutyOf(from, from+20+(seed*7+i*29)%90, (seed+3*i)%8, (seed/8+i*i)%8))
	}
	return list
}

// waysToMove gives tables without ways, with equal ways, with ways of all times, and with ways that are shorter over other points.
func waysToMove() [][]int {
	steep := crookedMoves()
	for i := range steep {
		steep[i] = steep[i] / 121 * 240
	}
	return [][]int{impl.StayingMoves(), evenMoves(30), crookedMoves(), steep}
}

// fewestSlowly gives the least number of persons for each set of the duties: the first duty of a set has a person, who performs some of the others, too.
func fewestSlowly(together [][]bool) int {
	ofOne := make([]bool, 1<<len(together))
	fewest := make([]int, 1<<len(together))
	ofOne[0] = true
	for set := 1; set < len(fewest); set++ {
		first := bits.TrailingZeros(uint(set))
		rest := set & (set - 1)
		ofOne[set] = ofOne[rest]
		for i := range together {
			ofOne[set] = ofOne[set] && (rest>>i&1 == 0 || together[first][i])
		}
		fewest[set] = len(together)
		for part := set; part > 0; part = (part - 1) & set {
			if part>>first&1 == 1 && ofOne[part] {
				fewest[set] = min(fewest[set], 1+fewest[set&^part])
			}
		}
	}
	return fewest[len(fewest)-1]
}

// A least cover is a cover, and its number is the least.
func TestLeastCoverOfManyDuties(t *testing.T) {
	for seed := range 50 {
		for n := range 13 {
			for i, moves := range waysToMove() {
				list, pause := crowdedDuties(seed*4+i, n), seed%3*5
				want := fewestSlowly(togetherSlowly(pause, moves, list))
				who, persons, ok := impl.LeastCover(pause, moves, list)
				if !ok || persons != want || differentIn(who) != want {
					t.Errorf("LeastCover(%d, %v, %+v) is %v, %d, %v, want %d persons", pause, moves, list, who, persons, ok, want)
				}
				checkCover(t, pause, moves, list, who, true)
			}
		}
	}
}

// The order of the list decides who performs a duty, but not how many persons are needed.
func TestLeastCoverOfEveryOrder(t *testing.T) {
	for _, moves := range waysToMove() {
		list := crowdedDuties(5, 5)
		_, want, _ := impl.LeastCover(5, moves, list)
		for _, order := range ordersOf([]int{0, 1, 2, 3, 4}) {
			var mixed []impl.Duty
			for _, i := range order {
				mixed = append(mixed, list[i])
			}
			who, _ := leastSlowly(togetherSlowly(5, moves, mixed), divisionsOf(5))
			checkLeastCover(t, 5, moves, mixed, want, who...)
		}
	}
}

func TestLeastCoverRefuses(t *testing.T) {
	for _, list := range badDutyLists() {
		checkNoLeastCover(t, 0, impl.StayingMoves(), list)
		checkNoLeastCover(t, -1, nil, list)
	}
	for _, list := range [][]impl.Duty{nil, {}, dutiesInTurn(1), dutiesInTurn(12), dutiesAtOnce(12)} {
		for _, pause := range badPauses() {
			checkNoLeastCover(t, pause, impl.StayingMoves(), list)
		}
		for _, moves := range badMoves() {
			checkNoLeastCover(t, 0, moves, list)
			checkNoLeastCover(t, 2880, moves, list)
		}
	}
}
