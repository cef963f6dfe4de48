package tests

import (
	"math"
	"slices"
	"testing"

	"loop.example/g00831/impl"
)

func checkPacking(t *testing.T, k impl.Chamber, lengths []int, lanes []int, want bool) {
	t.Helper()
	if got := impl.IsPacking(k, lengths, lanes); got != want {
		t.Errorf("IsPacking(%+v, %v, %v) is %v", k, lengths, lanes, got)
	}
}

func TestIsPacking(t *testing.T) {
	k := chamberOf(200, 2)
	checkPacking(t, k, []int{120, 90, 80, 60}, []int{0, 1, 0, 1}, true)
	checkPacking(t, k, []int{120, 90, 80, 60}, []int{1, 0, 1, 0}, true)
	checkPacking(t, k, []int{120, 90, 80, 60}, []int{0, 0, 1, 1}, false)
	checkPacking(t, k, []int{120, 90, 80, 60}, []int{0, 1, 1, 1}, false)
	checkPacking(t, k, []int{100, 100}, []int{1, 1}, true)
	checkPacking(t, k, []int{100, 101}, []int{1, 1}, false)
	checkPacking(t, k, []int{101, 100}, []int{0, 0}, false)
	checkPacking(t, k, []int{101, 100}, []int{0, 1}, true)
	checkPacking(t, k, []int{200}, []int{1}, true)
	checkPacking(t, k, []int{201}, []int{1}, false)
	checkPacking(t, chamberOf(1000, 1), []int{400, 400, 200}, []int{0, 0, 0}, true)
	checkPacking(t, chamberOf(1000, 1), []int{400, 400, 201}, []int{0, 0, 0}, false)
	checkPacking(t, chamberOf(400, 3), slices.Repeat([]int{150}, 6), []int{2, 1, 0, 0, 1, 2}, true)
	checkPacking(t, chamberOf(400, 3), slices.Repeat([]int{150}, 7), []int{2, 1, 0, 0, 1, 2, 0}, false)
}

func TestIsPackingWithoutShips(t *testing.T) {
	for _, k := range goodChambers() {
		checkPacking(t, k, nil, nil, true)
		checkPacking(t, k, []int{}, []int{}, true)
		for _, number := range numbersAround(3) {
			checkPacking(t, k, nil, []int{number}, false)
		}
	}
}

func TestIsPackingOfEveryLane(t *testing.T) {
	for _, k := range chambersOf(100) {
		for _, number := range numbersAround(3) {
			want := within(number, 0, k.Lanes-1)
			checkPacking(t, k, []int{100}, []int{number}, want)
			for place := range 8 {
				lanes := slices.Repeat([]int{0}, 8)
				lanes[place] = number
				checkPacking(t, k, slices.Repeat([]int{12}, 8), lanes, want)
			}
		}
	}
}

func TestIsPackingOfOtherNumbersOfLanes(t *testing.T) {
	for _, k := range chambersOf(100) {
		for ships := range 9 {
			for lanes := range 20 {
				checkPacking(t, k, slices.Repeat([]int{12}, ships), make([]int, lanes), ships == lanes)
			}
		}
	}
}

// packedSlowly adds up the lengths in each lane of a valid chamber.
func packedSlowly(k impl.Chamber, lengths []int, lanes []int) bool {
	if len(lanes) != len(lengths) {
		return false
	}
	sums := map[int]int{}
	for i, number := range lanes {
		sums[number] += lengths[i]
	}
	for number, sum := range sums {
		if !within(number, 0, k.Lanes-1) || sum > k.Length {
			return false
		}
	}
	return true
}

func TestIsPackingOfEveryList(t *testing.T) {
	for n := range 5 {
		allLanes := beginsOf([]int{-1, 0, 1, 2, 3}, n)
		for _, lengths := range beginsOf([]int{1, 4, 6, 10, 11}, n) {
			for _, k := range chambersOf(10) {
				for _, lanes := range allLanes {
					checkPacking(t, k, lengths, lanes, packedSlowly(k, lengths, lanes))
				}
			}
		}
	}
}

func TestIsPackingRefuses(t *testing.T) {
	for _, k := range badChambers() {
		checkPacking(t, k, nil, nil, false)
		checkPacking(t, k, []int{5}, []int{0}, false)
		checkPacking(t, k, []int{5, 6}, []int{0, 1}, false)
		checkPacking(t, k, []int{0}, []int{0}, false)
		checkPacking(t, k, []int{5}, []int{math.MaxInt}, false)
	}
	for _, lengths := range badLengths() {
		for _, k := range append(chambersOf(1000), impl.Chamber{}) {
			checkPacking(t, k, lengths, make([]int, len(lengths)), false)
			checkPacking(t, k, lengths, nil, false)
		}
	}
}

func checkPacked(t *testing.T, k impl.Chamber, lengths []int, want ...int) {
	t.Helper()
	if got, ok := impl.PackShips(k, lengths); !slices.Equal(got, want) || !ok {
		t.Errorf("PackShips(%+v, %v) is %v, %v, want %v", k, lengths, got, ok, want)
	}
}

func checkNotPacked(t *testing.T, k impl.Chamber, lengths []int) {
	t.Helper()
	if got, ok := impl.PackShips(k, lengths); len(got) > 0 || ok {
		t.Errorf("PackShips(%+v, %v) is %v, %v", k, lengths, got, ok)
	}
}

func TestPackShips(t *testing.T) {
	checkPacked(t, chamberOf(200, 2), []int{120, 90, 80, 60}, 0, 1, 0, 1)
	checkNotPacked(t, chamberOf(200, 1), []int{120, 90})
	checkPacked(t, chamberOf(210, 1), []int{120, 90}, 0, 0)
	checkNotPacked(t, chamberOf(209, 1), []int{120, 90})
	for _, k := range goodChambers() {
		checkPacked(t, k, nil)
		checkPacked(t, k, []int{})
		checkPacked(t, k, []int{1}, 0)
		checkPacked(t, k, []int{min(k.Length, 400)}, 0)
		if k.Length < 400 {
			checkNotPacked(t, k, []int{k.Length + 1})
			checkNotPacked(t, k, []int{1, k.Length + 1})
			checkNotPacked(t, k, []int{k.Length + 1, 1})
		}
	}
}

// A ship that has gone into the first lane with room for it leaves it again, because others need the room.
func TestPackShipsMovesShips(t *testing.T) {
	checkPacked(t, chamberOf(10, 2), []int{4, 5, 6, 5}, 0, 1, 0, 1)
	checkPacked(t, chamberOf(10, 2), []int{3, 4, 2, 7, 4}, 0, 1, 1, 0, 1)
	checkPacked(t, chamberOf(10, 2), []int{2, 2, 3, 5, 8}, 0, 1, 0, 0, 1)
	checkPacked(t, chamberOf(10, 3), []int{1, 1, 1, 9, 9, 9}, 0, 1, 2, 0, 1, 2)
	checkPacked(t, chamberOf(10, 3), []int{3, 4, 3, 7, 6, 7}, 0, 1, 2, 0, 1, 2)
	checkPacked(t, chamberOf(10, 3), []int{4, 3, 2, 6, 7, 8}, 0, 1, 2, 0, 1, 2)
	checkNotPacked(t, chamberOf(10, 2), []int{4, 4, 4, 4, 4})
	checkNotPacked(t, chamberOf(10, 3), []int{6, 6, 6, 6})
	checkNotPacked(t, chamberOf(10, 3), []int{1, 1, 1, 9, 9, 10})
}

func TestPackShipsOfSeveralPackings(t *testing.T) {
	checkPacked(t, chamberOf(10, 2), []int{5, 5, 5, 5}, 0, 0, 1, 1)
	checkPacked(t, chamberOf(10, 3), []int{1, 1, 1}, 0, 0, 0)
	checkPacked(t, chamberOf(10, 3), []int{10, 10, 10}, 0, 1, 2)
	checkPacked(t, chamberOf(10, 3), []int{6, 5, 4}, 0, 1, 0)
	checkPacked(t, chamberOf(10, 3), []int{6, 6, 4, 4}, 0, 1, 0, 1)
	checkPacked(t, chamberOf(10, 3), []int{9, 1, 8, 1, 1}, 0, 0, 1, 1, 1)
	checkPacked(t, chamberOf(10, 3), []int{6, 5, 5, 5, 4}, 0, 1, 1, 2, 0)
}

func TestPackShipsOfTheGreatestNumber(t *testing.T) {
	checkPacked(t, chamberOf(20, 2), slices.Repeat([]int{5}, 8), 0, 0, 0, 0, 1, 1, 1, 1)
	checkPacked(t, chamberOf(30, 3), slices.Repeat([]int{10}, 8), 0, 0, 0, 1, 1, 1, 2, 2)
	checkPacked(t, chamberOf(10, 1), slices.Repeat([]int{1}, 8), 0, 0, 0, 0, 0, 0, 0, 0)
	checkPacked(t, chamberOf(1000, 3), []int{400, 400, 400, 400, 400, 400, 200, 200}, 0, 0, 1, 1, 2, 2, 0, 1)
	checkNotPacked(t, chamberOf(1000, 3), slices.Repeat([]int{400}, 8))
	checkNotPacked(t, chamberOf(1000, 3), slices.Repeat([]int{1}, 9))
	checkNotPacked(t, chamberOf(10, 3), slices.Repeat([]int{400}, 8))
}

// somewhatMixed gives lists of n lengths from 1 to a greatest one that follow no simple order.
func somewhatMixed(n int, greatest int) [][]int {
	var lists [][]int
	for seed := range 60 {
		var lengths []int
		for i := range n {
			lengths = append(lengths, 1+(seed*seed+(seed+3)*(i+1)*(i+2)+7*i)%greatest)
		}
		lists = append(lists, lengths)
	}
	return lists
}

// loads gives lists of lengths for chambers that are about 10 long.
func loads() [][]int {
	var lists [][]int
	for n := range 4 {
		lists = append(lists, beginsOf([]int{1, 2, 3, 4, 5, 6, 7, 10, 11}, n)...)
	}
	for n := 4; n <= 8; n++ {
		for _, greatest := range []int{3, 5, 7, 8, 10, 11} {
			lists = append(lists, somewhatMixed(n, greatest)...)
		}
	}
	return lists
}

// checkLeastPacking compares with all lists of lanes, which come in lexicographic order.
func checkLeastPacking(t *testing.T, k impl.Chamber, lengths []int, allLanes [][]int) {
	t.Helper()
	i := slices.IndexFunc(allLanes, func(lanes []int) bool {
		var sums [3]int
		for i, number := range lanes {
			sums[number] += lengths[i]
		}
		return slices.Max(sums[:]) <= k.Length
	})
	if i < 0 {
		checkNotPacked(t, k, lengths)
		return
	}
	checkPacked(t, k, lengths, allLanes[i]...)
	checkPacking(t, k, lengths, allLanes[i], true)
}

func TestPackShipsOfEveryLoad(t *testing.T) {
	var allLanes [4][9][][]int
	for lanes := 1; lanes <= 3; lanes++ {
		for n := range 9 {
			allLanes[lanes][n] = beginsOf([]int{0, 1, 2}[:lanes], n)
		}
	}
	for _, lengths := range loads() {
		for _, length := range []int{10, 12} {
			for _, k := range chambersOf(length) {
				checkLeastPacking(t, k, lengths, allLanes[k.Lanes][len(lengths)])
			}
		}
	}
}

func TestPackShipsRefuses(t *testing.T) {
	for _, k := range badChambers() {
		for _, lengths := range append(badLengths(), nil, []int{5}, []int{5, 6}) {
			checkNotPacked(t, k, lengths)
		}
	}
	for _, lengths := range badLengths() {
		for _, k := range goodChambers() {
			checkNotPacked(t, k, lengths)
		}
	}
}
