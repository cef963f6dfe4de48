package tests

import (
	"math"
	"slices"
	"testing"

	"loop.example/g00831/impl"
)

func upAt(start int, ships ...int) impl.Locking {
	return impl.Locking{Start: start, Up: true, Ships: ships}
}

func downAt(start int, ships ...int) impl.Locking {
	return impl.Locking{Start: start, Ships: ships}
}

func cycleOf(list ...impl.Locking) []impl.Locking { return list }

// turns gives n lockings without ships, the first one upward, each as soon after the one before as a chamber of chamberOf can.
func turns(n int) []impl.Locking {
	var list []impl.Locking
	for i := range n {
		list = append(list, impl.Locking{Start: 20 * i, Up: i%2 == 0})
	}
	return list
}

// reversed gives the lockings with the opposite directions.
func reversed(plan []impl.Locking) []impl.Locking {
	list := slices.Clone(plan)
	for i := range list {
		list[i].Up = !list[i].Up
	}
	return list
}

// withShips puts ships into one locking of a plan.
func withShips(plan []impl.Locking, i int, ships ...int) []impl.Locking {
	list := slices.Clone(plan)
	list[i].Ships = ships
	return list
}

// withStart changes the Start of one locking of a plan.
func withStart(plan []impl.Locking, i int, start int) []impl.Locking {
	list := slices.Clone(plan)
	list[i].Start = start
	return list
}

func fleetOfLengths(lengths ...int) []impl.Ship {
	var list []impl.Ship
	for i, length := range lengths {
		list = append(list, shipOf("s"+impl.FormatInt(i), length, 500, 0, 1))
	}
	return list
}

func checkLockPlan(t *testing.T, k impl.Chamber, fleet []impl.Ship, plan []impl.Locking, want bool) {
	t.Helper()
	if got := impl.LockPlanOk(k, fleet, plan); got != want {
		t.Errorf("LockPlanOk(%+v, %+v, %+v) is %v", k, fleet, plan, got)
	}
}

// minutesAround gives minutes at both ends of the time and beyond them, and the least and the greatest int.
func minutesAround() []int {
	return []int{math.MinInt, math.MinInt + 1, math.MinInt + 20, -2881, -20, -1, 0, 1, 19, 20, 21, 39, 40, 41, 2839, 2840, 2841, 2859, 2860, 2861, 2879, 2880, 2881, 2900, math.MaxInt - 20, math.MaxInt - 1, math.MaxInt}
}

func TestCycleConstants(t *testing.T) {
	if impl.MaxLockings != 12 {
		t.Errorf("MaxLockings is %d", impl.MaxLockings)
	}
}

func TestLockPlanOk(t *testing.T) {
	k, fleet := chamberOf(200, 1), fleetOfLengths(150, 120, 80, 40)
	checkLockPlan(t, k, fleet, cycleOf(upAt(10, 0), downAt(30), upAt(50, 1), downAt(100, 0)), true)
	checkLockPlan(t, k, fleet, cycleOf(upAt(10, 0), downAt(30), upAt(50, 1), downAt(60, 0)), false)
	checkLockPlan(t, k, fleet, cycleOf(downAt(2880, 2, 1)), true)
	checkLockPlan(t, k, fleet, cycleOf(downAt(2880, 2, 1, 3)), false)
	checkLockPlan(t, k, fleet, cycleOf(upAt(0, 1, 3), downAt(1440, 3, 0), upAt(2880, 3, 2)), true)
	checkLockPlan(t, k, fleet, cycleOf(upAt(0, 1, 3), upAt(1440, 3, 0), downAt(2880, 3, 2)), false)
	checkLockPlan(t, chamberOf(200, 2), fleet, cycleOf(upAt(0, 0, 1, 2, 3), downAt(20, 3, 2, 1, 0)), true)
	checkLockPlan(t, chamberOf(189, 2), fleet, cycleOf(upAt(0, 0, 1, 2, 3), downAt(20, 3, 2, 1, 0)), false)
}

func TestLockPlanOkWithoutLockings(t *testing.T) {
	for _, k := range goodChambers() {
		for _, fleet := range goodFleets() {
			checkLockPlan(t, k, fleet, nil, true)
			checkLockPlan(t, k, fleet, []impl.Locking{}, true)
		}
	}
}

func TestLockPlanOkOfEveryNumber(t *testing.T) {
	for n := range 30 {
		plan := turns(n)
		checkLockPlan(t, chamberOf(200, 1), nil, plan, n <= 12)
		checkLockPlan(t, chamberOf(200, 3), someShips(6), reversed(plan), n <= 12)
		for i := range plan {
			checkLockPlan(t, chamberOf(200, 1), someShips(6), withShips(plan, i, 5), n <= 12)
		}
	}
}

func TestLockPlanOkOfOneStart(t *testing.T) {
	k, fleet := chamberOf(200, 1), someShips(3)
	for _, start := range minutesAround() {
		checkLockPlan(t, k, fleet, cycleOf(upAt(start)), within(start, 0, 2880))
		checkLockPlan(t, k, fleet, cycleOf(downAt(start, 2)), within(start, 0, 2880))
	}
	for start := -60; start <= 3000; start++ {
		checkLockPlan(t, k, fleet, cycleOf(upAt(start)), within(start, 0, 2880))
	}
}

// The starts of the first, a middle and the last locking are taken from all that is near an end.
func TestLockPlanOkOfEveryStart(t *testing.T) {
	k := chamberOf(200, 1)
	for _, starts := range beginsOf(minutesAround(), 3) {
		a, b, c := starts[0], starts[1], starts[2]
		inTime := within(a, 0, 2880) && within(b, 0, 2880) && within(c, 0, 2880)
		want := inTime && b-a >= 20 && c-b >= 20
		checkLockPlan(t, k, nil, cycleOf(upAt(a), downAt(b), upAt(c)), want)
		checkLockPlan(t, k, nil, cycleOf(downAt(a), upAt(b), downAt(c)), want)
	}
	for i := range 12 {
		for _, start := range minutesAround() {
			want := within(start, 20*i, 20*i) || i == 11 && within(start, 220, 2880)
			checkLockPlan(t, k, nil, withStart(turns(12), i, start), want)
		}
	}
}

func TestLockPlanOkOfEveryTimeBetween(t *testing.T) {
	for _, k := range goodChambers() {
		for _, first := range []int{0, 1, 500, 2880 - k.Minutes - 1, 2880 - k.Minutes} {
			for _, between := range []int{-k.Minutes, -1, 0, 1, k.Minutes - 2, k.Minutes - 1, k.Minutes, k.Minutes + 1, 2 * k.Minutes} {
				want := between >= k.Minutes && within(first+between, 0, 2880)
				checkLockPlan(t, k, nil, cycleOf(upAt(first), downAt(first+between)), want)
				checkLockPlan(t, k, nil, cycleOf(downAt(first), upAt(first+between)), want)
			}
		}
	}
}

func TestLockPlanOkOfEveryDirection(t *testing.T) {
	for n := range 7 {
		for _, ways := range beginsOf([]int{0, 1}, n) {
			var plan []impl.Locking
			turning := true
			for i, way := range ways {
				plan = append(plan, impl.Locking{Start: 200 * i, Up: way == 1})
				turning = turning && (i == 0 || way != ways[i-1])
			}
			checkLockPlan(t, chamberOf(200, 1), nil, plan, turning)
		}
	}
}

func TestLockPlanOkOfEveryShip(t *testing.T) {
	for n := range 7 {
		fleet := someShips(n)
		for _, ship := range numbersAround(n) {
			want := within(ship, 0, n-1)
			for i := range 3 {
				checkLockPlan(t, chamberOf(400, 3), fleet, withShips(turns(3), i, ship), want)
				if n > 1 {
					other := 0
					if ship == 0 {
						other = 1
					}
					checkLockPlan(t, chamberOf(400, 3), fleet, withShips(turns(3), i, ship, other), want)
					checkLockPlan(t, chamberOf(400, 3), fleet, withShips(turns(3), i, other, ship), want)
				}
			}
		}
	}
}

func TestLockPlanOkOfTheSameShip(t *testing.T) {
	k, fleet := chamberOf(1000, 3), someShips(6)
	for a := range 6 {
		for b := range 6 {
			checkLockPlan(t, k, fleet, cycleOf(upAt(0, a, b)), a != b)
			checkLockPlan(t, k, fleet, cycleOf(upAt(0), downAt(20, a, b), upAt(40)), a != b)
			checkLockPlan(t, k, fleet, cycleOf(upAt(0, a), downAt(20, b)), true)
			checkLockPlan(t, k, fleet, cycleOf(upAt(0, a), downAt(20), upAt(40, b)), true)
		}
	}
	for n := range 6 {
		for _, ships := range beginsOf([]int{0, 2, 5}, n) {
			different := len(slices.Compact(slices.Sorted(slices.Values(ships)))) == len(ships)
			checkLockPlan(t, k, fleet, cycleOf(downAt(7, ships...)), different)
		}
	}
}

// A fleet has fewer ships than MaxPacked, so lists of so many ships have one twice or one that does not exist.
func TestLockPlanOkOfManyShips(t *testing.T) {
	k, fleet := chamberOf(1000, 3), fleetOfLengths(10, 10, 10, 10, 10, 10)
	checkLockPlan(t, k, fleet, cycleOf(upAt(0, 5, 4, 3, 2, 1, 0)), true)
	for n := 7; n <= 10; n++ {
		var ships []int
		for i := range n {
			ships = append(ships, i)
		}
		checkLockPlan(t, k, fleet, cycleOf(upAt(0, ships...)), false)
		for i := range ships {
			ships[i] %= 6
		}
		checkLockPlan(t, k, fleet, cycleOf(upAt(0, ships...)), false)
	}
	checkLockPlan(t, k, fleet, cycleOf(upAt(0, make([]int, 8)...)), false)
	checkLockPlan(t, k, fleet, cycleOf(upAt(0, make([]int, 9)...)), false)
	checkLockPlan(t, k, fleet, cycleOf(upAt(0, make([]int, 1000)...)), false)
}

func TestLockPlanOkOfLengths(t *testing.T) {
	fleet := fleetOfLengths(400, 400, 200, 100, 99, 101)
	for i := range 3 {
		for _, w := range []struct {
			length int
			lanes  int
			ships  []int
			want   bool
		}{
			{1000, 1, []int{0, 1, 2}, true}, {999, 1, []int{0, 1, 2}, false}, {1000, 1, []int{0, 1, 3, 4}, true}, {1000, 1, []int{0, 1, 5, 3}, false},
			{400, 1, []int{1}, true}, {399, 1, []int{1}, false}, {400, 2, []int{1, 0}, true}, {400, 2, []int{1, 0, 4}, false}, {500, 2, []int{3, 1, 4, 0}, true},
			{500, 2, []int{5, 1, 4, 0}, false}, {400, 3, []int{5, 2, 0, 4, 1}, true}, {400, 3, []int{0, 1, 2, 3, 4}, true}, {400, 3, []int{5, 2, 3, 0, 1}, false}, {99, 1, []int{4}, true}, {99, 3, []int{3}, false},
		} {
			checkLockPlan(t, chamberOf(w.length, w.lanes), fleet, withShips(turns(3), i, w.ships...), w.want)
		}
	}
}

// Whether a locking can be packed is asked of every set of ships.
func TestLockPlanOkOfEverySet(t *testing.T) {
	for _, lengths := range somewhatMixed(6, 91) {
		for i := range lengths {
			lengths[i] += 9
		}
		for _, k := range append(chambersOf(100), chambersOf(150)...) {
			for set, packed := range fillOf(k, lengths) {
				var ships []int
				for i := range lengths {
					if set>>i&1 == 1 {
						ships = append(ships, i)
					}
				}
				checkLockPlan(t, k, fleetOfLengths(lengths...), cycleOf(upAt(0, ships...), downAt(20)), packed)
				slices.Reverse(ships)
				checkLockPlan(t, k, fleetOfLengths(lengths...), cycleOf(upAt(0), downAt(20, ships...)), packed)
			}
		}
	}
}

func plansToRefuse() [][]impl.Locking {
	return [][]impl.Locking{nil, {}, turns(1), turns(12), cycleOf(upAt(0, 0)), cycleOf(downAt(10, 0), upAt(400, 0)), cycleOf(upAt(-1)), cycleOf(upAt(math.MaxInt), downAt(math.MinInt)), cycleOf(upAt(0, -1)), turns(13)}
}

func TestLockPlanOkRefuses(t *testing.T) {
	for _, plan := range plansToRefuse() {
		for _, k := range badChambers() {
			checkLockPlan(t, k, nil, plan, false)
			checkLockPlan(t, k, someShips(6), plan, false)
			checkLockPlan(t, k, someShips(7), plan, false)
		}
		for _, fleet := range badFleets() {
			checkLockPlan(t, chamberOf(1000, 3), fleet, plan, false)
		}
	}
}
