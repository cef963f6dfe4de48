package tests

import (
	"math"
	"slices"
	"testing"

	"loop.example/g00831/impl"
)

func checkLockedAt(t *testing.T, plan []impl.Locking, ship int, up bool, want int) {
	t.Helper()
	if got := impl.LockedAt(plan, ship, up); got != want {
		t.Errorf("LockedAt(%+v, %d, %v) is %d, want %d", plan, ship, up, got, want)
	}
}

func checkLockOrder(t *testing.T, plan []impl.Locking, up bool, want ...int) {
	t.Helper()
	if got := impl.LockOrder(plan, up); !slices.Equal(got, want) {
		t.Errorf("LockOrder(%+v, %v) is %v, want %v", plan, up, got, want)
	}
}

func checkEmpty(t *testing.T, plan []impl.Locking, want int) {
	t.Helper()
	if got := impl.EmptyLockings(plan); got != want {
		t.Errorf("EmptyLockings(%+v) is %d, want %d", plan, got, want)
	}
}

func TestOrdersWithoutLockings(t *testing.T) {
	for _, plan := range [][]impl.Locking{nil, {}} {
		for _, up := range []bool{true, false} {
			checkLockOrder(t, plan, up)
			for _, ship := range numbersAround(6) {
				checkLockedAt(t, plan, ship, up, -1)
			}
		}
		checkEmpty(t, plan, 0)
	}
}

func TestOrdersWithoutShips(t *testing.T) {
	for n := range 14 {
		plan := turns(n)
		for _, up := range []bool{true, false} {
			checkLockOrder(t, plan, up)
			for _, ship := range numbersAround(6) {
				checkLockedAt(t, plan, ship, up, -1)
			}
		}
		checkEmpty(t, plan, n)
		for i := range plan {
			plan[i].Ships = []int{}
		}
		checkEmpty(t, plan, n)
		for i := range plan {
			plan[i].Ships = []int{i}
			checkEmpty(t, plan, n-1-i)
		}
	}
}

func TestLockedAt(t *testing.T) {
	plan := cycleOf(upAt(10, 0), downAt(30, 2), upAt(50, 1, 3, 0), downAt(100, 0, 1), upAt(130), downAt(150, 1))
	for ship, want := range []int{10, 50, -1, 50, -1} {
		checkLockedAt(t, plan, ship, true, want)
	}
	for ship, want := range []int{100, 100, 30, -1, -1} {
		checkLockedAt(t, plan, ship, false, want)
	}
	for _, ship := range []int{math.MinInt, -1, 4, 5, 6, 10, 30, math.MaxInt} {
		checkLockedAt(t, plan, ship, true, -1)
		checkLockedAt(t, plan, ship, false, -1)
	}
}

func TestLockOrder(t *testing.T) {
	plan := cycleOf(upAt(10, 3, 0), downAt(30, 2), upAt(50), downAt(70), upAt(90, 1), downAt(110, 0, 1, 3))
	checkLockOrder(t, plan, true, 3, 0, 1)
	checkLockOrder(t, plan, false, 2, 0, 1, 3)
	again := cycleOf(upAt(10, 2, 1), downAt(30, 1), upAt(50, 1, 2), downAt(70, 1, 0), upAt(90, 2))
	checkLockOrder(t, again, true, 2, 1, 1, 2, 2)
	checkLockOrder(t, again, false, 1, 1, 0)
	checkLockOrder(t, cycleOf(upAt(0, 4)), false)
	checkLockOrder(t, cycleOf(downAt(0, 4)), true)
	checkEmpty(t, plan, 2)
	checkEmpty(t, again, 0)
}

// A list that is no lock plan is read like one that is.
func TestOrdersOfOtherLists(t *testing.T) {
	plan := cycleOf(upAt(math.MaxInt, -1, 7, 7), upAt(-5, 7, math.MaxInt), downAt(math.MinInt, math.MinInt, -1), upAt(-5, 9))
	checkLockedAt(t, plan, 7, true, math.MaxInt)
	checkLockedAt(t, plan, -1, true, math.MaxInt)
	checkLockedAt(t, plan, math.MaxInt, true, -5)
	checkLockedAt(t, plan, -1, false, math.MinInt)
	checkLockedAt(t, plan, 7, false, -1)
	checkLockedAt(t, plan, 9, true, -5)
	checkLockOrder(t, plan, true, -1, 7, 7, 7, math.MaxInt, 9)
	checkLockOrder(t, plan, false, math.MinInt, -1)
	checkEmpty(t, plan, 0)
	long := slices.Repeat(cycleOf(upAt(3, 1), upAt(2), downAt(1, 2, 2)), 100)
	checkLockOrder(t, long, true, slices.Repeat([]int{1}, 100)...)
	checkLockOrder(t, long, false, slices.Repeat([]int{2}, 200)...)
	checkLockedAt(t, long, 1, true, 3)
	checkLockedAt(t, long, 2, false, 1)
	checkEmpty(t, long, 100)
}

// somePlans gives lists of up to four lockings with different starts, of both directions and with all kinds of ships.
func somePlans() [][]impl.Locking {
	kinds := [][]int{nil, {0}, {1}, {1, 0}, {2, 0, 1}}
	var plans [][]impl.Locking
	for n := range 5 {
		for i, choice := range beginsOf([]int{0, 1, 2, 3, 4}, n) {
			for ways := range 1 << n {
				if n == 4 && (i+ways)%7 > 0 {
					continue
				}
				var plan []impl.Locking
				for k, kind := range choice {
					plan = append(plan, impl.Locking{Start: 20 * k, Up: ways>>k&1 == 1, Ships: kinds[kind]})
				}
				plans = append(plans, plan)
			}
		}
	}
	return plans
}

// lockedSlowly goes through the lockings from the last one back, and keeps what comes first.
func lockedSlowly(plan []impl.Locking, ship int, up bool) int {
	start := -1
	for i := len(plan) - 1; i >= 0; i-- {
		for _, other := range plan[i].Ships {
			if plan[i].Up == up && other == ship {
				start = plan[i].Start
			}
		}
	}
	return start
}

func TestOrdersOfEveryPlan(t *testing.T) {
	for _, plan := range somePlans() {
		empty, ships := 0, map[bool][]int{}
		for _, l := range plan {
			if len(l.Ships) == 0 {
				empty++
			}
			ships[l.Up] = append(ships[l.Up], l.Ships...)
		}
		checkEmpty(t, plan, empty)
		for _, up := range []bool{true, false} {
			checkLockOrder(t, plan, up, ships[up]...)
			for ship := -1; ship <= 3; ship++ {
				start := lockedSlowly(plan, ship, up)
				checkLockedAt(t, plan, ship, up, start)
				if slices.Contains(ships[up], ship) != (start >= 0) {
					t.Errorf("ship %d of %+v is locked at %d", ship, plan, start)
				}
			}
		}
	}
}
