package tests

import (
	"slices"
	"testing"

	"loop.example/g00831/impl"
)

// packResults calls every function whose result has a list, and gives the lists.
func packResults(k impl.Chamber, lengths []int) [][]int {
	lanes, _ := impl.PackShips(k, lengths)
	return [][]int{lanes, impl.PrefixLockings(k, lengths)}
}

// callLocks calls every other function that takes lists.
func callLocks(k impl.Chamber, lengths []int, lanes []int) {
	impl.LengthsOk(lengths)
	impl.IsPacking(k, lengths, lanes)
	impl.MostShips(k, lengths)
	impl.LeastLockings(k, lengths)
}

// loadsToKeep gives loads that fit together, that do not, and that are in no order.
func loadsToKeep() [][]int {
	return [][]int{nil, {5}, {10}, {9, 8, 7, 1, 2, 3}, {4, 5, 6, 5}, {8, 8, 8, 8, 2, 2, 2, 2}, {3, 1, 2, 3, 1, 2, 3, 1}, {6, 6, 6, 6}, {1, 10, 1, 10, 1}}
}

func TestLockResultsAreNew(t *testing.T) {
	for _, kept := range loadsToKeep() {
		for _, k := range chambersOf(10) {
			lengths := slices.Clone(kept)
			first := packResults(k, lengths)
			before := copyOfInts(first)
			for _, list := range packResults(k, lengths) {
				spoilInts(list)
			}
			checkKeptInts(t, append(first, lengths), append(before, kept), "after a change of later results")
			spoilInts(first[0])
			checkKeptInts(t, [][]int{first[1], lengths}, [][]int{before[1], kept}, "after a change of another result")
			spoilInts(first[1])
			checkKeptInts(t, append(packResults(k, lengths), lengths), append(before, kept), "the same call again")
		}
	}
}

func TestLockResultsOutliveTheirArguments(t *testing.T) {
	for _, kept := range loadsToKeep() {
		for _, k := range chambersOf(10) {
			lengths := slices.Clone(kept)
			first := packResults(k, lengths)
			before := copyOfInts(first)
			spoilInts(lengths)
			checkKeptInts(t, first, before, "after a change of the arguments")
		}
	}
}

// checkLocksTouchNothing calls all functions with arguments that have room behind them, which is no part of the lists or of a result.
func checkLocksTouchNothing(t *testing.T, k impl.Chamber, kept []int, numbers []int) {
	t.Helper()
	lengths, wholeLengths := roomBehind(kept, 1, 10, 400, 0, -1)
	lanes, wholeLanes := roomBehind(numbers, 0, 1, 9, -1)
	before := copyOfInts([][]int{wholeLengths, wholeLanes})
	callLocks(k, lengths, lanes)
	results := packResults(k, lengths)
	checkKeptInts(t, results, packResults(k, slices.Clip(slices.Clone(kept))), "without the room behind the lengths")
	for _, list := range results {
		spoilInts(list)
	}
	checkKeptInts(t, [][]int{wholeLengths, wholeLanes}, before, "the lengths and the lanes with the room behind them")
}

func TestLockArgumentsAreUnchanged(t *testing.T) {
	for _, lengths := range append(loadsToKeep(), badLengths()...) {
		for _, k := range append(chambersOf(10), chamberOf(1000, 3), impl.Chamber{}) {
			lanes, _ := impl.PackShips(k, lengths)
			checkLocksTouchNothing(t, k, lengths, lanes)
			checkLocksTouchNothing(t, k, lengths, make([]int, len(lengths)))
			checkLocksTouchNothing(t, k, lengths, []int{2, 1, 0})
		}
	}
}

// What lies behind a list is no element of it, even where its memory can be reached.
func TestLocksWithoutTheRoomBehind(t *testing.T) {
	k := chamberOf(10, 2)
	lengths, whole := roomBehind([]int{4, 6}, 11, 0)
	lanes, _ := roomBehind([]int{1, 1}, 1, 2)
	checkLengthsOk(t, lengths, true)
	checkLengthsOk(t, whole, false)
	checkPacking(t, k, lengths, lanes, true)
	checkPacking(t, k, lengths, lanes[:1], false)
	checkPacked(t, k, lengths, 0, 0)
	checkMost(t, k, lengths, 2)
	checkPrefixes(t, k, lengths, 2)
	checkLeast(t, k, lengths, 1)
}

func TestLockResultsStayTheSame(t *testing.T) {
	k, lengths := chamberOf(10, 2), []int{4, 5, 6, 5, 9, 8}
	for range 100 {
		checkPacked(t, k, lengths[:4], 0, 1, 0, 1)
		checkNotPacked(t, k, lengths)
		checkMost(t, k, lengths, 4)
		checkPrefixes(t, k, lengths, 4, 2)
		checkLeast(t, k, lengths, 2)
		checkPacking(t, k, lengths, []int{0, 1, 0, 1, 0, 1}, false)
		checkPacking(t, k, lengths[:4], []int{1, 0, 1, 0}, true)
	}
}
