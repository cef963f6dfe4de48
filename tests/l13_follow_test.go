package tests

import (
	"slices"
	"testing"

	"loop.example/g00831/impl"
)

func checkFollow(t *testing.T, pause int, moves []int, d impl.Duty, e impl.Duty, want bool) {
	t.Helper()
	if got := impl.CanFollow(pause, moves, d, e); got != want {
		t.Errorf("CanFollow(%d, %v, %+v, %+v) is %v", pause, moves, d, e, got)
	}
}

func TestCanFollow(t *testing.T) {
	d, e := dutyOf(0, 30, 0, 1), dutyOf(40, 60, 2, 3)
	checkFollow(t, 0, impl.StayingMoves(), d, e, true)
	checkFollow(t, 10, impl.StayingMoves(), d, e, true)
	checkFollow(t, 11, impl.StayingMoves(), d, e, false)
	checkFollow(t, 4, movesWith(10, 6), d, e, true)
	checkFollow(t, 4, movesWith(10, 7), d, e, false)
	checkFollow(t, 5, movesWith(10, 6), d, e, false)
	checkFollow(t, 10, movesWith(17, 240), d, e, true)
	checkFollow(t, 0, impl.StayingMoves(), e, d, false)
	checkFollow(t, 0, impl.StayingMoves(), dutyOf(0, 40, 0, 1), e, true)
	checkFollow(t, 0, impl.StayingMoves(), dutyOf(0, 41, 0, 1), e, false)
	checkFollow(t, 2878, impl.StayingMoves(), dutyOf(0, 1, 0, 0), dutyOf(2879, 2880, 0, 0), true)
	checkFollow(t, 2879, impl.StayingMoves(), dutyOf(0, 1, 0, 0), dutyOf(2879, 2880, 0, 0), false)
	checkFollow(t, 2880, evenMoves(240), dutyOf(0, 1, 0, 0), dutyOf(2879, 2880, 0, 0), false)
}

// The second duty begins one minute too early, just in time, and one minute later.
func TestCanFollowOfEveryGap(t *testing.T) {
	rows := slices.Collect(slices.Chunk(crookedMoves(), 8))
	for _, pause := range []int{0, 1, 10, 100, 1000} {
		for b := range 8 {
			for a := range 8 {
				d := dutyOf(50, 150, 6, b)
				ready := 150 + pause + rows[b][a]
				for from := ready - 1; from <= ready+1; from++ {
					checkFollow(t, pause, crookedMoves(), d, dutyOf(from, from+1, a, 4), from >= ready)
					checkFollow(t, pause, crookedMoves(), d, dutyOf(from, 2880, a, 4), from >= ready)
				}
			}
		}
	}
}

func TestCanFollowOfEveryTime(t *testing.T) {
	times := []int{-1, 0, 1, 5, 15, 16, 30, 2880, 2881}
	for _, begins := range beginsOf(times, 2) {
		for _, ends := range beginsOf(times, 2) {
			d, e := dutyOf(begins[0], begins[1], 0, 1), dutyOf(ends[0], ends[1], 2, 0)
			valid := begins[0] >= 0 && begins[0] < begins[1] && ends[0] < ends[1] && ends[1] <= 2880
			checkFollow(t, 3, movesWith(10, 7), d, e, valid && ends[0]-begins[1] >= 10)
			checkFollow(t, 0, impl.StayingMoves(), d, e, valid && ends[0] >= begins[1])
		}
	}
}

// A duty takes at least one minute, so none follows itself; one that is not valid would.
func TestNoDutyFollowsItself(t *testing.T) {
	for _, d := range append(goodDuties(), badDuties()...) {
		checkFollow(t, 0, impl.StayingMoves(), d, d, false)
	}
	for _, minute := range []int{0, 1, 1440, 2880} {
		checkFollow(t, 0, impl.StayingMoves(), dutyOf(minute, minute, 0, 0), dutyOf(minute, minute, 0, 0), false)
	}
}

func TestNothingFollowsWhatIsNotValid(t *testing.T) {
	for _, bad := range badDuties() {
		for _, good := range goodDuties() {
			checkFollow(t, 0, impl.StayingMoves(), bad, good, false)
			checkFollow(t, 0, impl.StayingMoves(), good, bad, false)
			checkFollow(t, 2880, evenMoves(240), bad, good, false)
			checkFollow(t, 2880, evenMoves(240), good, bad, false)
		}
		for _, other := range badDuties() {
			checkFollow(t, 0, impl.StayingMoves(), bad, other, false)
		}
	}
	d, e := dutyOf(100, 200, 3, 5), dutyOf(300, 400, 3, 5)
	checkFollow(t, 0, impl.StayingMoves(), d, e, true)
	for _, p := range []int{-1, 8} {
		checkFollow(t, 0, impl.StayingMoves(), dutyOf(100, 200, p, 5), e, false)
		checkFollow(t, 0, impl.StayingMoves(), dutyOf(100, 200, 3, p), e, false)
		checkFollow(t, 0, impl.StayingMoves(), d, dutyOf(300, 400, p, 5), false)
		checkFollow(t, 0, impl.StayingMoves(), d, dutyOf(300, 400, 3, p), false)
	}
	checkFollow(t, 0, impl.StayingMoves(), dutyOf(-1, 200, 3, 5), e, false)
	checkFollow(t, 0, impl.StayingMoves(), dutyOf(200, 200, 3, 5), e, false)
	checkFollow(t, 0, impl.StayingMoves(), d, dutyOf(300, 300, 3, 5), false)
	checkFollow(t, 0, impl.StayingMoves(), d, dutyOf(300, 2881, 3, 5), false)
}

func TestCanFollowRefuses(t *testing.T) {
	d, e := dutyOf(0, 1, 0, 1), dutyOf(2879, 2880, 2, 3)
	checkFollow(t, 0, impl.StayingMoves(), d, e, true)
	for _, pause := range badPauses() {
		checkFollow(t, pause, impl.StayingMoves(), d, e, false)
		checkFollow(t, pause, evenMoves(240), d, e, false)
	}
	for _, moves := range badMoves() {
		checkFollow(t, 0, moves, d, e, false)
		checkFollow(t, -1, moves, d, e, false)
	}
}
