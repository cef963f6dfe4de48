package tests

import (
	"math"
	"slices"
	"testing"

	"loop.example/g00831/impl"
)

func chamberOf(length int, lanes int) impl.Chamber {
	return impl.Chamber{Length: length, Lanes: lanes, Minutes: 20}
}

// chambersOf gives the chambers of a length with every number of lanes.
func chambersOf(length int) []impl.Chamber {
	return []impl.Chamber{chamberOf(length, 1), chamberOf(length, 2), chamberOf(length, 3)}
}

func goodChambers() []impl.Chamber {
	var list []impl.Chamber
	for _, length := range []int{10, 11, 200, 999, 1000} {
		for _, minutes := range []int{1, 2, 20, 119, 120} {
			for lanes := 1; lanes <= 3; lanes++ {
				list = append(list, impl.Chamber{Length: length, Lanes: lanes, Minutes: minutes})
			}
		}
	}
	return list
}

// badChambers gives chambers that are valid but for one field, and the chamber whose fields are all zero values.
func badChambers() []impl.Chamber {
	list := []impl.Chamber{{}, {Length: 200}, {Lanes: 2}, {Minutes: 20}}
	for _, end := range endsAround(10, 1000) {
		if !within(end, 10, 1000) {
			list = append(list, chamberOf(end, 2))
		}
	}
	for _, end := range endsAround(1, 3) {
		if !within(end, 1, 3) {
			list = append(list, chamberOf(200, end))
		}
	}
	for _, end := range endsAround(1, 120) {
		if !within(end, 1, 120) {
			list = append(list, impl.Chamber{Length: 200, Lanes: 2, Minutes: end})
		}
	}
	return list
}

// badLengths gives lists with one length that is not valid at every place, and lists that are too long.
func badLengths() [][]int {
	lists := [][]int{{0}, make([]int, 8), make([]int, 9), slices.Repeat([]int{100}, 9), slices.Repeat([]int{1}, 9), slices.Repeat([]int{400}, 500)}
	for _, wrong := range []int{math.MinInt, math.MinInt + 1, -100, -1, 0, 401, 402, math.MaxInt - 1, math.MaxInt} {
		for n := range 8 {
			for place := range n + 1 {
				lists = append(lists, slices.Insert(slices.Repeat([]int{5}, n), place, wrong))
			}
		}
	}
	return lists
}

func checkChamberOk(t *testing.T, k impl.Chamber, want bool) {
	t.Helper()
	if got := impl.ChamberOk(k); got != want {
		t.Errorf("ChamberOk(%+v) is %v", k, got)
	}
}

func checkLengthsOk(t *testing.T, lengths []int, want bool) {
	t.Helper()
	if got := impl.LengthsOk(lengths); got != want {
		t.Errorf("LengthsOk(%v) is %v", lengths, got)
	}
}

func checkLockingTime(t *testing.T, k impl.Chamber, n int, want int) {
	t.Helper()
	if got := impl.LockingTime(k, n); got != want {
		t.Errorf("LockingTime(%+v, %d) is %d, want %d", k, n, got, want)
	}
}

func TestLockConstants(t *testing.T) {
	if impl.MaxPacked != 8 {
		t.Errorf("MaxPacked is %d", impl.MaxPacked)
	}
}

func TestChamberOk(t *testing.T) {
	for _, k := range goodChambers() {
		checkChamberOk(t, k, true)
	}
	for _, k := range badChambers() {
		checkChamberOk(t, k, false)
	}
}

func TestChamberOkOfEveryField(t *testing.T) {
	for n := -1100; n <= 1100; n++ {
		checkChamberOk(t, impl.Chamber{Length: n, Lanes: 3, Minutes: 120}, within(n, 10, 1000))
		checkChamberOk(t, impl.Chamber{Length: 1000, Lanes: n, Minutes: 1}, within(n, 1, 3))
		checkChamberOk(t, impl.Chamber{Length: 10, Lanes: 1, Minutes: n}, within(n, 1, 120))
	}
}

func TestChamberOkOfEveryEnd(t *testing.T) {
	for _, length := range endsAround(10, 1000) {
		for _, lanes := range endsAround(1, 3) {
			for _, minutes := range endsAround(1, 120) {
				want := within(length, 10, 1000) && within(lanes, 1, 3) && within(minutes, 1, 120)
				checkChamberOk(t, impl.Chamber{Length: length, Lanes: lanes, Minutes: minutes}, want)
			}
		}
	}
}

func TestLengthsOkOfEveryNumberOfShips(t *testing.T) {
	checkLengthsOk(t, nil, true)
	checkLengthsOk(t, []int{}, true)
	for n := range 30 {
		for _, length := range []int{1, 2, 100, 399, 400} {
			checkLengthsOk(t, slices.Repeat([]int{length}, n), n <= 8)
		}
	}
}

func TestLengthsOkOfEveryPlace(t *testing.T) {
	for n := range 8 {
		for place := range n + 1 {
			for _, end := range endsAround(1, 400) {
				for _, other := range []int{1, 200, 400} {
					checkLengthsOk(t, slices.Insert(slices.Repeat([]int{other}, n), place, end), within(end, 1, 400))
				}
			}
		}
	}
	for _, lengths := range badLengths() {
		checkLengthsOk(t, lengths, false)
	}
	for length := -450; length <= 450; length++ {
		checkLengthsOk(t, []int{length}, within(length, 1, 400))
	}
}

func TestLockingTime(t *testing.T) {
	k := chamberOf(200, 1)
	for n, want := range []int{0, 20, 60, 100, 140} {
		checkLockingTime(t, k, n, want)
	}
	checkLockingTime(t, k, 19, 740)
	checkLockingTime(t, k, 20, 780)
	checkLockingTime(t, impl.Chamber{Length: 10, Lanes: 1, Minutes: 120}, 20, 4680)
	checkLockingTime(t, impl.Chamber{Length: 1000, Lanes: 3, Minutes: 1}, 2, 3)
}

// slowTime lets the chamber come back before each locking but the first.
func slowTime(minutes int, n int) int {
	if n < 0 || n > 20 {
		return -1
	}
	sum := 0
	for i := range n {
		if i > 0 {
			sum += minutes
		}
		sum += minutes
	}
	return sum
}

func TestLockingTimeOfEveryNumber(t *testing.T) {
	numbers := endsAround(0, 20)
	for n := -50; n <= 50; n++ {
		numbers = append(numbers, n)
	}
	for _, n := range numbers {
		for _, k := range goodChambers() {
			checkLockingTime(t, k, n, slowTime(k.Minutes, n))
		}
		for _, k := range badChambers() {
			checkLockingTime(t, k, n, -1)
		}
	}
}
