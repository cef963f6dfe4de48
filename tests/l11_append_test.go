package tests

import (
	"math"
	"slices"
	"testing"

	"loop.example/g00831/impl"
)

func sameLockings(a []impl.Locking, b []impl.Locking) bool {
	return slices.EqualFunc(a, b, func(l impl.Locking, m impl.Locking) bool {
		return l.Start == m.Start && l.Up == m.Up && slices.Equal(l.Ships, m.Ships)
	})
}

// checkAppended wants the plan followed by the lockings behind it, as a valid plan.
func checkAppended(t *testing.T, k impl.Chamber, fleet []impl.Ship, plan []impl.Locking, up bool, ready int, ships []int, behind ...impl.Locking) {
	t.Helper()
	got, ok := impl.AppendLocking(k, fleet, plan, up, ready, ships)
	if want := slices.Concat(plan, behind); !ok || !sameLockings(got, want) {
		t.Errorf("AppendLocking(%+v, %+v, %+v, %v, %d, %v) is %+v, %v, want %+v", k, fleet, plan, up, ready, ships, got, ok, want)
	}
	checkLockPlan(t, k, fleet, got, true)
}

func checkNotAppended(t *testing.T, k impl.Chamber, fleet []impl.Ship, plan []impl.Locking, up bool, ready int, ships []int) {
	t.Helper()
	if got, ok := impl.AppendLocking(k, fleet, plan, up, ready, ships); ok || len(got) > 0 {
		t.Errorf("AppendLocking(%+v, %+v, %+v, %v, %d, %v) is %+v, %v", k, fleet, plan, up, ready, ships, got, ok)
	}
}

func TestAppendLockingToNoLocking(t *testing.T) {
	fleet := fleetOfLengths(150, 120)
	for _, k := range chambersOf(200) {
		for _, plan := range [][]impl.Locking{nil, {}} {
			for _, ready := range minutesAround() {
				if !within(ready, 0, 2880) {
					checkNotAppended(t, k, fleet, plan, true, ready, nil)
					checkNotAppended(t, k, fleet, plan, false, ready, []int{1})
					continue
				}
				checkAppended(t, k, fleet, plan, true, ready, []int{0}, upAt(ready, 0))
				checkAppended(t, k, fleet, plan, false, ready, []int{1}, downAt(ready, 1))
				checkAppended(t, k, fleet, plan, true, ready, nil, upAt(ready))
				checkAppended(t, k, nil, plan, false, ready, []int{}, downAt(ready))
			}
		}
	}
}

func TestAppendLockingInTheOtherDirection(t *testing.T) {
	k, fleet := chamberOf(200, 1), fleetOfLengths(150, 120)
	for _, ready := range []int{0, 1, 10, 29, 30} {
		checkAppended(t, k, fleet, cycleOf(upAt(10, 0)), false, ready, []int{0}, downAt(30, 0))
		checkAppended(t, k, fleet, cycleOf(downAt(10, 0)), true, ready, []int{1}, upAt(30, 1))
		checkAppended(t, k, fleet, cycleOf(upAt(10)), false, ready, nil, downAt(30))
	}
	for _, ready := range []int{31, 49, 50, 51, 1000, 2880} {
		checkAppended(t, k, fleet, cycleOf(upAt(10, 0)), false, ready, []int{0}, downAt(ready, 0))
		checkAppended(t, k, fleet, cycleOf(downAt(10, 0)), true, ready, []int{1}, upAt(ready, 1))
	}
}

// The empty chamber comes back just before it is needed, not as soon as it can.
func TestAppendLockingInTheSameDirection(t *testing.T) {
	k, fleet := chamberOf(200, 1), fleetOfLengths(150, 120)
	for _, ready := range []int{0, 1, 10, 29, 30, 31, 49, 50} {
		checkAppended(t, k, fleet, cycleOf(upAt(10, 0)), true, ready, []int{1}, downAt(30), upAt(50, 1))
		checkAppended(t, k, fleet, cycleOf(downAt(10, 0)), false, ready, []int{0}, upAt(30), downAt(50, 0))
		checkAppended(t, k, fleet, cycleOf(upAt(10)), true, ready, nil, downAt(30), upAt(50))
	}
	for _, ready := range []int{51, 69, 70, 71, 1000, 2880} {
		checkAppended(t, k, fleet, cycleOf(upAt(10, 0)), true, ready, []int{1}, downAt(ready-20), upAt(ready, 1))
		checkAppended(t, k, fleet, cycleOf(downAt(10, 0)), false, ready, []int{0}, upAt(ready-20), downAt(ready, 0))
	}
}

func TestAppendLockingSeveralTimes(t *testing.T) {
	k, fleet := chamberOf(200, 1), fleetOfLengths(150, 120, 80)
	plan, _ := impl.AppendLocking(k, fleet, nil, true, 10, []int{0})
	plan, _ = impl.AppendLocking(k, fleet, plan, true, 0, []int{1})
	plan, _ = impl.AppendLocking(k, fleet, plan, false, 100, []int{0})
	checkAppended(t, k, fleet, plan, false, 30, []int{2, 1}, upAt(120), downAt(140, 2, 1))
	if want := cycleOf(upAt(10, 0), downAt(30), upAt(50, 1), downAt(100, 0)); !sameLockings(plan, want) {
		t.Errorf("the plan is %+v, want %+v", plan, want)
	}
}

// A locking in the same direction as the last one adds two lockings, so it may be too much where one in the other direction is not.
func TestAppendLockingUpToMaxLockings(t *testing.T) {
	k, fleet := chamberOf(200, 1), fleetOfLengths(150)
	for n := 1; n <= 14; n++ {
		plan := turns(n)
		last, next := plan[n-1].Up, 20*n
		for _, ships := range [][]int{nil, {0}} {
			if n <= 11 {
				checkAppended(t, k, fleet, plan, !last, 0, ships, impl.Locking{Start: next, Up: !last, Ships: ships})
			} else {
				checkNotAppended(t, k, fleet, plan, !last, 0, ships)
			}
			if n <= 10 {
				checkAppended(t, k, fleet, plan, last, 0, ships, impl.Locking{Start: next, Up: !last}, impl.Locking{Start: next + 20, Up: last, Ships: ships})
			} else {
				checkNotAppended(t, k, fleet, plan, last, 0, ships)
			}
		}
	}
}

func TestAppendLockingOfShips(t *testing.T) {
	fleet := fleetOfLengths(100, 100, 100, 90, 60, 40)
	plan := cycleOf(upAt(0, 4))
	for _, up := range []bool{true, false} {
		for _, ships := range [][]int{{-1}, {6}, {math.MinInt}, {math.MaxInt}, {0, -1}, {6, 0}, {0, 0}, {0, 1, 0}, {5, 4, 4}, {0, 1, 2}, {3, 4, 5, 0}, {0, 1, 2, 3, 4, 5}, {0, 1, 2, 3, 4, 5, 0, 1}, make([]int, 8), make([]int, 9), make([]int, 1000)} {
			checkNotAppended(t, chamberOf(200, 1), fleet, plan, up, 0, ships)
			checkNotAppended(t, chamberOf(200, 1), fleet, nil, up, 0, ships)
		}
	}
	for _, ships := range [][]int{nil, {0}, {5}, {4}, {0, 1}, {1, 0}, {3, 4, 5}, {5, 3, 4}} {
		checkAppended(t, chamberOf(200, 1), fleet, plan, false, 0, ships, downAt(20, ships...))
		checkAppended(t, chamberOf(200, 1), fleet, plan, true, 0, ships, downAt(20), upAt(40, ships...))
	}
	checkAppended(t, chamberOf(200, 3), fleet, plan, false, 0, []int{5, 4, 3, 2, 1, 0}, downAt(20, 5, 4, 3, 2, 1, 0))
	checkNotAppended(t, chamberOf(99, 3), fleet, plan, false, 0, []int{2})
	checkAppended(t, chamberOf(100, 3), fleet, plan, false, 0, []int{2}, downAt(20, 2))
}

func TestAppendLockingAtTheLastMinute(t *testing.T) {
	fleet := fleetOfLengths(150)
	for _, minutes := range []int{1, 20, 120} {
		k := impl.Chamber{Length: 200, Lanes: 1, Minutes: minutes}
		for _, ready := range []int{0, 2879, 2880} {
			checkAppended(t, k, fleet, cycleOf(upAt(2880-minutes)), false, ready, []int{0}, downAt(2880, 0))
			checkNotAppended(t, k, fleet, cycleOf(upAt(2881-minutes)), false, ready, []int{0})
			checkNotAppended(t, k, fleet, cycleOf(upAt(2881-minutes)), false, ready, nil)
			checkAppended(t, k, fleet, cycleOf(downAt(2880-2*minutes)), false, ready, []int{0}, upAt(2880-minutes), downAt(2880, 0))
			checkNotAppended(t, k, fleet, cycleOf(downAt(2881-2*minutes)), false, ready, []int{0})
			checkNotAppended(t, k, fleet, cycleOf(downAt(2881-2*minutes)), false, ready, nil)
		}
	}
	checkNotAppended(t, chamberOf(200, 1), fleet, cycleOf(upAt(2880)), true, 0, nil)
	checkNotAppended(t, chamberOf(200, 1), fleet, cycleOf(upAt(2880)), false, 0, nil)
}

func TestAppendLockingOfEveryReady(t *testing.T) {
	k, fleet := chamberOf(200, 1), fleetOfLengths(150, 120)
	for ready := -60; ready <= 3000; ready++ {
		if !within(ready, 0, 2880) {
			checkNotAppended(t, k, fleet, cycleOf(upAt(700, 0)), true, ready, []int{1})
			checkNotAppended(t, k, fleet, cycleOf(upAt(700, 0)), false, ready, []int{1})
			continue
		}
		same, other := max(740, ready), max(720, ready)
		checkAppended(t, k, fleet, cycleOf(upAt(700, 0)), true, ready, []int{1}, downAt(same-20), upAt(same, 1))
		checkAppended(t, k, fleet, cycleOf(upAt(700, 0)), false, ready, []int{1}, downAt(other, 1))
	}
}

// appendSlowly finds the first minute of a locking for which the plan stays valid, without or with the empty chamber before it.
func appendSlowly(k impl.Chamber, fleet []impl.Ship, plan []impl.Locking, up bool, ready int, ships []int) []impl.Locking {
	for minute := ready; minute <= 2880; minute++ {
		l := impl.Locking{Start: minute, Up: up, Ships: ships}
		if list := append(slices.Clone(plan), l); impl.LockPlanOk(k, fleet, list) {
			return list
		}
		if list := append(slices.Clone(plan), impl.Locking{Start: minute - k.Minutes, Up: !up}, l); len(plan) > 0 && impl.LockPlanOk(k, fleet, list) {
			return list
		}
	}
	return nil
}

// The plans grow until there is no more room or time in them.
func TestAppendLockingOfManyPlans(t *testing.T) {
	fleet := fleetOfLengths(150, 120, 80, 50, 200, 10)
	for seed := range 80 {
		k := impl.Chamber{Length: 200 - seed%3*20, Lanes: 1 + seed%2, Minutes: []int{1, 20, 77, 120}[seed/2%4]}
		var plan []impl.Locking
		for step := range 16 {
			ready := (seed*seed + 37*step*step + 11*seed*step) % 2000
			up := (seed>>(step%9)+step*step/3)%2 == 0
			ships := [][]int{nil, {0}, {1, 2}, {3, 5, 0}, {4}, {2, 3, 1, 0}, {5}}[(seed*(step+3)+step)%7]
			want := appendSlowly(k, fleet, plan, up, ready, ships)
			if want == nil {
				checkNotAppended(t, k, fleet, plan, up, ready, ships)
				continue
			}
			checkAppended(t, k, fleet, plan, up, ready, ships, want[len(plan):]...)
			plan, _ = impl.AppendLocking(k, fleet, plan, up, ready, ships)
		}
		for _, up := range []bool{true, false} {
			for _, ship := range impl.LockOrder(plan, up) {
				if impl.LockedAt(plan, ship, up) < 0 {
					t.Errorf("ship %d of %+v is not locked", ship, plan)
				}
			}
		}
	}
}

// Each of these plans is not valid for one reason, while its last locking is.
func TestAppendLockingToInvalidPlans(t *testing.T) {
	k, fleet := chamberOf(200, 1), fleetOfLengths(150, 120, 80)
	for _, plan := range [][]impl.Locking{
		cycleOf(downAt(-1), upAt(50)),
		cycleOf(downAt(math.MinInt), upAt(50)),
		cycleOf(downAt(math.MaxInt), upAt(50)),
		cycleOf(downAt(2881), upAt(50)),
		cycleOf(upAt(0), downAt(math.MaxInt), upAt(50)),
		cycleOf(downAt(31), upAt(50)),
		cycleOf(upAt(0), upAt(50)),
		cycleOf(downAt(0, 3), upAt(50)),
		cycleOf(downAt(0, -1), upAt(50)),
		cycleOf(downAt(0, 2, 2), upAt(50)),
		cycleOf(downAt(0, 0, 1), upAt(50)),
		cycleOf(upAt(50, 0, 1)),
		cycleOf(upAt(50, 3)),
		turns(13),
		turns(50),
	} {
		for _, ready := range []int{0, 50, 70, 1000, 2880} {
			for _, ships := range [][]int{nil, {0}, {3}} {
				checkNotAppended(t, k, fleet, plan, true, ready, ships)
				checkNotAppended(t, k, fleet, plan, false, ready, ships)
			}
		}
	}
	for _, start := range minutesAround() {
		if !within(start, 0, 2880) {
			checkNotAppended(t, k, fleet, cycleOf(upAt(start)), true, 0, nil)
			checkNotAppended(t, k, fleet, cycleOf(upAt(start)), false, 2880, []int{0})
		}
	}
}

func TestAppendLockingRefuses(t *testing.T) {
	for _, plan := range plansToRefuse() {
		for _, ships := range [][]int{nil, {0}} {
			for _, k := range badChambers() {
				checkNotAppended(t, k, someShips(6), plan, true, 400, ships)
				checkNotAppended(t, k, someShips(6), plan, false, 400, ships)
			}
			for _, fleet := range badFleets() {
				checkNotAppended(t, chamberOf(1000, 3), fleet, plan, true, 400, ships)
				checkNotAppended(t, chamberOf(1000, 3), fleet, plan, false, 400, ships)
			}
			for _, ready := range []int{math.MinInt, -1, 2881, math.MaxInt} {
				checkNotAppended(t, chamberOf(1000, 3), someShips(6), plan, true, ready, ships)
				checkNotAppended(t, chamberOf(1000, 3), someShips(6), plan, false, ready, ships)
			}
		}
	}
}
