package tests

import (
	"slices"
	"testing"

	"loop.example/g00831/impl"
)

func copyOfLockings(plan []impl.Locking) []impl.Locking {
	list := slices.Clone(plan)
	for i := range list {
		list[i].Ships = slices.Clone(list[i].Ships)
	}
	return list
}

// spoilLockings changes the lockings, the lists of their ships, and the room behind them all.
func spoilLockings(plan []impl.Locking) {
	plan = plan[:cap(plan)]
	for i := range plan {
		spoilInts(plan[i].Ships)
		plan[i] = impl.Locking{Start: -77, Up: !plan[i].Up}
	}
}

func checkKeptLockings(t *testing.T, got []impl.Locking, want []impl.Locking, what string) {
	t.Helper()
	if !sameLockings(got, want) {
		t.Errorf("%s: %+v, want %+v", what, got, want)
	}
}

// plansToKeep gives valid plans; some of their lockings have the same list of ships.
func plansToKeep() [][]impl.Locking {
	both := []int{1, 0}
	return [][]impl.Locking{nil, turns(1), turns(5), cycleOf(upAt(0, 0)), cycleOf(upAt(0, both...), downAt(20, both...), upAt(40, both...)), cycleOf(downAt(5, 2), upAt(100), downAt(130, 2, 1, 0))}
}

// growths gives the results of appending a locking in each direction, some of them with lists of ships that the plan has, too.
func growths(plan []impl.Locking, ships []int) [][]impl.Locking {
	k, fleet := chamberOf(400, 2), someShips(6)
	lists := [][]int{nil, ships}
	for _, l := range plan {
		lists = append(lists, l.Ships)
	}
	var results [][]impl.Locking
	for _, list := range lists {
		same, _ := impl.AppendLocking(k, fleet, plan, true, 500, list)
		other, _ := impl.AppendLocking(k, fleet, plan, false, 500, list)
		results = append(results, same, other)
	}
	return results
}

func copyOfGrowths(results [][]impl.Locking) [][]impl.Locking {
	var copies [][]impl.Locking
	for _, plan := range results {
		copies = append(copies, copyOfLockings(plan))
	}
	return copies
}

func TestAppendedPlansAreNew(t *testing.T) {
	for _, kept := range plansToKeep() {
		plan, ships := copyOfLockings(kept), []int{0, 3}
		first := growths(plan, ships)
		before := copyOfGrowths(first)
		for i, result := range first {
			if len(result) <= len(kept) {
				t.Errorf("nothing was appended to %+v", kept)
			}
			spoilLockings(result)
			for k := i + 1; k < len(first); k++ {
				checkKeptLockings(t, first[k], before[k], "after a change of another result")
			}
			checkKeptLockings(t, plan, kept, "the plan after a change of a result")
			checkKeptInts(t, [][]int{ships}, [][]int{{0, 3}}, "the ships after a change of a result")
		}
		for k, result := range growths(plan, ships) {
			checkKeptLockings(t, result, before[k], "the same call again")
		}
	}
}

func TestAppendedPlansOutliveTheirArguments(t *testing.T) {
	for _, kept := range plansToKeep() {
		plan, ships := copyOfLockings(kept), []int{0, 3}
		first := growths(plan, ships)
		before := copyOfGrowths(first)
		spoilLockings(plan)
		spoilInts(ships)
		for k := range first {
			checkKeptLockings(t, first[k], before[k], "after a change of the arguments")
		}
	}
}

// No two lists of ships of one result share memory, not even where those of the plan are the same list.
func TestListsOfOnePlanAreApart(t *testing.T) {
	for _, kept := range plansToKeep() {
		for _, plan := range growths(kept, []int{0, 3}) {
			before := copyOfLockings(plan)
			for i, l := range plan {
				spoilInts(l.Ships)
				for k := i + 1; k < len(plan); k++ {
					checkKeptInts(t, [][]int{plan[k].Ships}, [][]int{before[k].Ships}, "after a change of another list")
				}
			}
		}
	}
}

func TestLockOrdersAreNew(t *testing.T) {
	for _, kept := range plansToKeep() {
		plan := copyOfLockings(kept)
		first := [][]int{impl.LockOrder(plan, true), impl.LockOrder(plan, false), impl.LockOrder(plan, true)}
		before := copyOfInts(first)
		for i, ships := range first {
			spoilInts(ships)
			checkKeptInts(t, first[i+1:], before[i+1:], "after a change of another result")
			checkKeptLockings(t, plan, kept, "the plan after a change of a result")
		}
		first = [][]int{impl.LockOrder(plan, true), impl.LockOrder(plan, false), impl.LockOrder(plan, true)}
		spoilLockings(plan)
		checkKeptInts(t, first, before, "after a change of the plan")
	}
}

// planWithRoom gives a plan that has lockings behind its end and ships behind the ends of its lists, and the whole of it.
func planWithRoom(plan []impl.Locking) ([]impl.Locking, []impl.Locking) {
	list, whole := roomBehind(plan, upAt(-3, 7, 7, 7), downAt(600, 0), impl.Locking{})
	for i := range whole {
		whole[i].Ships, _ = roomBehind(whole[i].Ships, 5, 5, -1)
	}
	return list, whole
}

// wholeOf reads the lists of ships with the room behind them.
func wholeOf(plan []impl.Locking) []impl.Locking {
	list := copyOfLockings(plan)
	for i := range list {
		ships := plan[i].Ships
		list[i].Ships = slices.Clone(ships[:min(cap(ships), len(ships)+3)])
	}
	return list
}

// callCycles calls every function that takes a plan.
func callCycles(k impl.Chamber, fleet []impl.Ship, plan []impl.Locking, ships []int) {
	impl.LockPlanOk(k, fleet, plan)
	impl.EmptyLockings(plan)
	for _, up := range []bool{true, false} {
		impl.LockedAt(plan, 1, up)
		spoilInts(impl.LockOrder(plan, up))
		for _, ready := range []int{-1, 0, 500, 2880, 2881} {
			impl.NextTurn(k, plan, up, ready)
			result, _ := impl.AppendLocking(k, fleet, plan, up, ready, ships)
			spoilLockings(result)
		}
	}
}

func TestCycleArgumentsAreUnchanged(t *testing.T) {
	for _, kept := range slices.Concat(plansToKeep(), plansToRefuse(), somePlans()[:200]) {
		for _, list := range [][]int{nil, {0}, {3, 1}, {0, 0}, {-1, 9}} {
			for _, k := range append(chambersOf(400), impl.Chamber{}) {
				plan, whole := planWithRoom(kept)
				before := wholeOf(whole)
				ships, wholeShips := roomBehind(list, 2, 2, -1)
				fleet, wholeFleet := roomBehind(someShips(4), someShips(6)...)
				callCycles(k, fleet, plan, ships)
				checkKeptLockings(t, wholeOf(whole), before, "the plan with the room behind it")
				checkKeptInts(t, [][]int{wholeShips}, [][]int{append(slices.Clone(list), 2, 2, -1)}, "the ships with the room behind them")
				if !slices.Equal(wholeFleet, append(someShips(4), someShips(6)...)) {
					t.Errorf("the fleet with the room behind it became %+v", wholeFleet)
				}
			}
		}
	}
}

// What lies behind a list is no element of it, even where its memory can be reached.
func TestCyclesWithoutTheRoomBehind(t *testing.T) {
	k := chamberOf(400, 2)
	plan, _ := planWithRoom(cycleOf(upAt(0, 1), downAt(20), upAt(40, 2, 0)))
	ships, _ := roomBehind([]int{1}, 1, 9)
	fleet, _ := roomBehind(someShips(3), someShips(6)...)
	checkLockPlan(t, k, fleet, plan, true)
	checkLockPlan(t, k, fleet, withShips(plan, 1, 3), false)
	checkLockedAt(t, plan, 7, true, -1)
	checkLockedAt(t, plan, 5, true, -1)
	checkLockedAt(t, plan, 0, false, -1)
	checkLockOrder(t, plan, true, 1, 2, 0)
	checkLockOrder(t, plan, false)
	checkTurn(t, k, plan, true, 0, 80)
	checkEmpty(t, plan, 1)
	checkAppended(t, k, fleet, plan, false, 0, ships, downAt(60, 1))
	checkAppended(t, k, fleet, plan[:1], false, 0, ships, downAt(20, 1))
}

func TestCyclesStayTheSame(t *testing.T) {
	k, fleet, plan := chamberOf(200, 1), fleetOfLengths(150, 120), cycleOf(upAt(10, 0), downAt(30), upAt(50, 1))
	for range 100 {
		checkLockPlan(t, k, fleet, plan, true)
		checkLockPlan(t, k, fleet, turns(13), false)
		checkLockedAt(t, plan, 1, true, 50)
		checkLockOrder(t, plan, true, 0, 1)
		checkTurn(t, k, plan, true, 0, 90)
		checkAppended(t, k, fleet, plan, true, 0, []int{0}, downAt(70), upAt(90, 0))
		checkNotAppended(t, k, fleet, plan, true, 0, []int{0, 1})
		checkEmpty(t, plan, 1)
	}
}
