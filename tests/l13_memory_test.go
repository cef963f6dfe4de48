package tests

import (
	"slices"
	"testing"

	"loop.example/g00831/impl"
)

// spoilDuties changes a list and the room behind it.
func spoilDuties(list []impl.Duty) {
	list = list[:cap(list)]
	for i := range list {
		list[i] = dutyOf(-77, -78, -79, -80)
	}
}

// coverResults calls every function whose result has a list, and gives the lists.
func coverResults(pause int, moves []int, list []impl.Duty) [][]int {
	who, _, _ := impl.LeastCover(pause, moves, list)
	return [][]int{who, impl.RivalDuties(pause, moves, list), impl.StayingMoves()}
}

// callCovers calls every other function that takes lists.
func callCovers(pause int, moves []int, list []impl.Duty, who []int) {
	impl.DutiesOk(list)
	impl.IsCover(pause, moves, list, who)
	for _, d := range list {
		for _, e := range list {
			impl.Gap(pause, moves, d, e)
			impl.CanFollow(pause, moves, d, e)
		}
	}
}

// dutiesToKeep gives duties that are rivals, that are not, and that are in no order.
func dutiesToKeep() [][]impl.Duty {
	lists := [][]impl.Duty{nil, dutiesInTurn(1), dutiesInTurn(12), dutiesAtOnce(1), dutiesAtOnce(12)}
	for seed := range 20 {
		lists = append(lists, crowdedDuties(seed, 2+seed%11))
	}
	return lists
}

func TestCoverResultsAreNew(t *testing.T) {
	for _, kept := range dutiesToKeep() {
		for _, ways := range waysToMove() {
			list, moves := slices.Clone(kept), slices.Clone(ways)
			first := coverResults(10, moves, list)
			before := copyOfInts(first)
			for _, later := range coverResults(10, moves, list) {
				spoilInts(later)
			}
			checkKeptInts(t, append(first, moves), append(before, ways), "after a change of later results")
			checkKeptInts(t, coverResults(10, moves, list), before[:3], "the same calls again")
			for i, result := range first {
				spoilInts(result)
				checkKeptInts(t, append(first[i+1:3:3], moves), append(before[i+1:3:3], ways), "after a change of another result")
			}
			if !slices.Equal(list, kept) {
				t.Errorf("the duties are %+v after a change of the results, want %+v", list, kept)
			}
		}
	}
}

func TestCoverResultsOutliveTheirArguments(t *testing.T) {
	for _, kept := range dutiesToKeep() {
		for _, ways := range waysToMove() {
			list, moves := slices.Clone(kept), slices.Clone(ways)
			first := coverResults(10, moves, list)
			before := copyOfInts(first)
			spoilDuties(list)
			spoilInts(moves)
			checkKeptInts(t, first, before, "after a change of the arguments")
		}
	}
}

// checkCoversTouchNothing calls all functions with arguments that have room behind them, which is no part of the lists or of a result.
func checkCoversTouchNothing(t *testing.T, pause int, ways []int, kept []impl.Duty, persons []int) {
	t.Helper()
	list, wholeList := roomBehind(kept, dutyOf(0, 2880, 0, 0), impl.Duty{}, dutyOf(5, 6, 7, 8))
	moves, wholeMoves := roomBehind(ways, 0, 240, -1)
	who, wholeWho := roomBehind(persons, 0, 1, 99)
	beforeList, beforeInts := slices.Clone(wholeList), copyOfInts([][]int{wholeMoves, wholeWho})
	callCovers(pause, moves, list, who)
	results := coverResults(pause, moves, list)
	want := coverResults(pause, slices.Clip(slices.Clone(ways)), slices.Clip(slices.Clone(kept)))
	checkKeptInts(t, results, want, "without the room behind the arguments")
	for _, result := range results {
		spoilInts(result)
	}
	checkKeptInts(t, [][]int{wholeMoves, wholeWho}, beforeInts, "the moves and the persons with the room behind them")
	if !slices.Equal(wholeList, beforeList) {
		t.Errorf("the duties with the room behind them: %+v, want %+v", wholeList, beforeList)
	}
}

func TestCoverArgumentsAreUnchanged(t *testing.T) {
	lists := append(dutiesToKeep(), dutiesInTurn(13), dutiesAtOnce(20), badDuties(), make([]impl.Duty, 3), []impl.Duty{})
	for _, list := range lists {
		for _, moves := range append(waysToMove(), nil, make([]int, 63), evenMoves(-1), evenMoves(241)) {
			who, _, _ := impl.LeastCover(10, moves, list)
			checkCoversTouchNothing(t, 10, moves, list, who)
			checkCoversTouchNothing(t, 0, moves, list, allDifferent(len(list)))
			checkCoversTouchNothing(t, -1, moves, list, make([]int, len(list)))
			checkCoversTouchNothing(t, 2880, moves, list, []int{1, 0})
		}
	}
}

// What lies behind a list is no element of it, even where its memory can be reached.
func TestCoversWithoutTheRoomBehind(t *testing.T) {
	list, wholeList := roomBehind(dutiesInTurn(12), dutyOf(0, 2880, 0, 0))
	moves, wholeMoves := roomBehind(impl.StayingMoves(), 0)
	who, wholeWho := roomBehind(make([]int, 12), 1)
	checkDutiesOk(t, list, true)
	checkDutiesOk(t, wholeList, false)
	checkGap(t, 10, moves, list[0], list[1], 10)
	checkNoGap(t, 10, wholeMoves, list[0], list[1])
	checkFollow(t, 10, moves, list[0], list[1], true)
	checkCover(t, 10, moves, list, who, true)
	checkCover(t, 10, moves, list, wholeWho, false)
	checkCover(t, 10, moves, list[:2], who[:2], true)
	checkLeastCover(t, 10, moves, list, 1, who...)
	checkLeastCover(t, 10, moves, list[:2], 1, 0, 0)
	checkRivals(t, 10, moves, list, 0)
	checkRivals(t, 41, moves, list[:1], 0)
}

func TestCoverResultsStayTheSame(t *testing.T) {
	list, moves := tangle(1<<0|1<<2|1<<5|1<<9|1<<6, 2, 4, 0, 3, 1)
	for range 100 {
		checkLeastCover(t, 0, moves, list, 3, 0, 0, 1, 1, 2)
		checkRivals(t, 0, moves, list, 0, 2)
		checkCover(t, 0, moves, list, []int{0, 1, 1, 2, 0}, true)
		checkCover(t, 0, moves, list, []int{0, 1, 0, 1, 2}, false)
		checkLeastCover(t, 2880, moves, list, 5, 0, 1, 2, 3, 4)
	}
}
