package tests

import (
	"math"
	"slices"
	"testing"

	"loop.example/g00831/impl"
)

func checkTurn(t *testing.T, k impl.Chamber, plan []impl.Locking, up bool, ready int, want int) {
	t.Helper()
	if got := impl.NextTurn(k, plan, up, ready); got != want {
		t.Errorf("NextTurn(%+v, %+v, %v, %d) is %d, want %d", k, plan, up, ready, got, want)
	}
}

func TestNextTurn(t *testing.T) {
	k := chamberOf(200, 1)
	plan := cycleOf(upAt(10, 0), downAt(30), upAt(50, 1))
	for _, w := range [][3]int{{0, 90, 70}, {69, 90, 70}, {70, 90, 70}, {71, 90, 71}, {89, 90, 89}, {90, 90, 90}, {91, 91, 91}, {2880, 2880, 2880}} {
		checkTurn(t, k, plan, true, w[0], w[1])
		checkTurn(t, k, plan, false, w[0], w[2])
		checkTurn(t, k, reversed(plan), false, w[0], w[1])
		checkTurn(t, k, reversed(plan), true, w[0], w[2])
	}
}

func TestNextTurnAfterNoLocking(t *testing.T) {
	for _, k := range goodChambers() {
		for _, ready := range append(minutesAround(), 7, 1440) {
			want := -1
			if within(ready, 0, 2880) {
				want = ready
			}
			checkTurn(t, k, nil, true, ready, want)
			checkTurn(t, k, []impl.Locking{}, false, ready, want)
		}
	}
}

// turnSlowly lets the minutes pass from the last Start on until the chamber is free, and then until the chamber and the ships are both there.
func turnSlowly(k impl.Chamber, last impl.Locking, up bool, ready int) int {
	if !within(ready, 0, 2880) || !within(last.Start, 0, 2880) {
		return -1
	}
	minute, busy := last.Start, k.Minutes
	if last.Up == up {
		busy += k.Minutes
	}
	for busy > 0 || minute < ready {
		minute++
		busy--
	}
	return minute
}

func TestNextTurnOfEveryEnd(t *testing.T) {
	for _, minutes := range []int{1, 2, 20, 119, 120} {
		k := impl.Chamber{Length: 10, Lanes: 1, Minutes: minutes}
		for _, start := range minutesAround() {
			readies := append(minutesAround(), start, start+minutes-1, start+minutes, start+minutes+1, start+2*minutes-1, start+2*minutes, start+2*minutes+1)
			for _, last := range cycleOf(upAt(start), downAt(start, 1, 2)) {
				for _, ready := range readies {
					for _, up := range []bool{true, false} {
						checkTurn(t, k, cycleOf(last), up, ready, turnSlowly(k, last, up, ready))
					}
				}
			}
		}
	}
}

func TestNextTurnOfEveryReady(t *testing.T) {
	k := chamberOf(200, 1)
	for ready := -60; ready <= 3000; ready++ {
		for _, last := range cycleOf(upAt(0), downAt(700, 1), upAt(2880)) {
			checkTurn(t, k, cycleOf(last), true, ready, turnSlowly(k, last, true, ready))
			checkTurn(t, k, cycleOf(last), false, ready, turnSlowly(k, last, false, ready))
		}
	}
}

// The turn itself may be later than any minute.
func TestNextTurnAfterTheLastMinute(t *testing.T) {
	k := impl.Chamber{Length: 10, Lanes: 1, Minutes: 120}
	checkTurn(t, k, cycleOf(upAt(2880)), true, 0, 3120)
	checkTurn(t, k, cycleOf(upAt(2880)), false, 2880, 3000)
	checkTurn(t, k, cycleOf(upAt(2761)), false, 0, 2881)
	checkTurn(t, k, cycleOf(upAt(2760)), false, 0, 2880)
	checkTurn(t, k, cycleOf(upAt(2881)), false, 0, -1)
	checkTurn(t, k, cycleOf(upAt(2880)), false, 2881, -1)
}

// Only the last locking counts, even where the plan is not valid.
func TestNextTurnOfOtherLists(t *testing.T) {
	k := chamberOf(200, 1)
	for _, start := range minutesAround() {
		checkTurn(t, k, cycleOf(upAt(start, -1, -1), downAt(50)), true, 0, 70)
		checkTurn(t, k, cycleOf(upAt(start, -1, -1), downAt(50)), false, 0, 90)
		checkTurn(t, k, cycleOf(upAt(100), downAt(start), upAt(50, 99, 99)), true, 0, 90)
		checkTurn(t, k, cycleOf(upAt(100), upAt(start), upAt(50, 99, 99)), false, 0, 70)
	}
	checkTurn(t, k, append(slices.Repeat(turns(2), 50), upAt(3)), true, 0, 43)
	checkTurn(t, k, append(slices.Repeat(turns(2), 50), upAt(3)), false, 0, 23)
}

func TestNextTurnRefuses(t *testing.T) {
	for _, k := range badChambers() {
		for _, plan := range plansToRefuse() {
			for _, ready := range []int{math.MinInt, -1, 0, 500, 2880, 2881, math.MaxInt} {
				checkTurn(t, k, plan, true, ready, -1)
				checkTurn(t, k, plan, false, ready, -1)
			}
		}
	}
}
