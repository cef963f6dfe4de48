package tests

import (
	"math"
	"slices"
	"testing"

	"loop.example/g00831/impl"
)

func checkPrefixes(t *testing.T, k impl.Chamber, lengths []int, want ...int) {
	t.Helper()
	if got := impl.PrefixLockings(k, lengths); !slices.Equal(got, want) {
		t.Errorf("PrefixLockings(%+v, %v) is %v, want %v", k, lengths, got, want)
	}
}

func checkLeast(t *testing.T, k impl.Chamber, lengths []int, want int) {
	t.Helper()
	if got := impl.LeastLockings(k, lengths); got != want {
		t.Errorf("LeastLockings(%+v, %v) is %d, want %d", k, lengths, got, want)
	}
}

func checkNoLockings(t *testing.T, k impl.Chamber, lengths []int) {
	t.Helper()
	checkPrefixes(t, k, lengths)
	checkLeast(t, k, lengths, -1)
}

func TestLockingsWithoutShips(t *testing.T) {
	for _, k := range goodChambers() {
		checkPrefixes(t, k, nil)
		checkPrefixes(t, k, []int{})
		checkLeast(t, k, nil, 0)
		checkLeast(t, k, []int{}, 0)
	}
}

func TestPrefixLockings(t *testing.T) {
	checkPrefixes(t, chamberOf(200, 1), []int{120, 90, 80, 60}, 1, 2, 1)
	checkPrefixes(t, chamberOf(200, 2), []int{120, 90, 80, 60}, 4)
	checkPrefixes(t, chamberOf(10, 1), []int{1, 2, 3, 4}, 4)
	checkPrefixes(t, chamberOf(10, 1), []int{1, 2, 3, 5}, 3, 1)
	checkPrefixes(t, chamberOf(10, 1), []int{2, 2, 2, 9, 8, 2}, 3, 1, 2)
	checkPrefixes(t, chamberOf(10, 2), []int{2, 2, 2, 9, 8, 8, 2}, 4, 3)
	checkPrefixes(t, chamberOf(10, 1), []int{6, 7, 8, 9, 10, 6, 7, 8}, 1, 1, 1, 1, 1, 1, 1, 1)
	checkPrefixes(t, chamberOf(10, 3), []int{6, 7, 8, 9, 10, 6, 7, 8}, 3, 3, 2)
	checkPrefixes(t, chamberOf(10, 3), slices.Repeat([]int{5}, 8), 6, 2)
	checkPrefixes(t, chamberOf(10, 2), []int{4, 5, 6, 5, 10, 1, 9}, 4, 3)
	checkPrefixes(t, chamberOf(10, 1), []int{10, 1, 10, 1, 9}, 1, 1, 1, 2)
}

func TestLeastLockings(t *testing.T) {
	checkLeast(t, chamberOf(200, 1), []int{120, 90, 80, 60}, 2)
	checkLeast(t, chamberOf(200, 2), []int{120, 90, 80, 60}, 1)
	checkLeast(t, chamberOf(10, 1), []int{1, 2, 3, 4}, 1)
	checkLeast(t, chamberOf(10, 1), []int{1, 2, 3, 5}, 2)
	for ships := range 9 {
		for lanes := 1; lanes <= 3; lanes++ {
			checkLeast(t, chamberOf(10, lanes), slices.Repeat([]int{6}, ships), (ships+lanes-1)/lanes)
			checkLeast(t, chamberOf(400, lanes), slices.Repeat([]int{400}, ships), (ships+lanes-1)/lanes)
			checkLeast(t, chamberOf(10, lanes), slices.Repeat([]int{1}, ships), min(ships, 1))
		}
	}
	checkLeast(t, chamberOf(10, 3), slices.Repeat([]int{5}, 8), 2)
	checkLeast(t, chamberOf(10, 1), []int{4, 4, 4, 6, 6, 6, 5, 5}, 4)
	checkLeast(t, chamberOf(10, 1), []int{3, 3, 3, 3, 3, 3, 4, 8}, 4)
	checkLeast(t, chamberOf(10, 2), []int{4, 4, 4, 6, 6, 6, 5, 5}, 2)
	checkLeast(t, chamberOf(10, 3), []int{4, 4, 4, 6, 6, 6, 5, 5}, 2)
}

// Taken in their order, these ships need more lockings than they need in another one.
func TestLeastLockingsInAnotherOrder(t *testing.T) {
	for _, w := range []struct {
		lanes    int
		lengths  []int
		prefixes []int
		least    int
	}{
		{1, []int{9, 9, 1, 1}, []int{1, 2, 1}, 2},
		{1, []int{6, 6, 4, 4}, []int{1, 2, 1}, 2},
		{1, []int{1, 10, 1, 10, 1}, []int{1, 1, 1, 1, 1}, 3},
		{2, []int{10, 1, 10, 10, 1}, []int{2, 2, 1}, 2},
		{2, []int{6, 6, 6, 4, 4, 4, 5, 5}, []int{2, 4, 2}, 2},
		{3, []int{10, 10, 1, 10, 10, 10, 1, 1}, []int{3, 3, 2}, 2},
		{3, []int{9, 9, 9, 9, 1, 1, 10, 10}, []int{3, 4, 1}, 2},
	} {
		checkPrefixes(t, chamberOf(10, w.lanes), w.lengths, w.prefixes...)
		checkLeast(t, chamberOf(10, w.lanes), w.lengths, w.least)
	}
}

// A ship as long as the chamber has a lane of its own, and no lane takes a longer one, wherever it is in the list.
func TestLockingsOfLongShips(t *testing.T) {
	for _, k := range chambersOf(10) {
		checkPrefixes(t, k, []int{10}, 1)
		checkLeast(t, k, []int{10}, 1)
		for n := range 8 {
			for place := range n + 1 {
				others := slices.Repeat([]int{1}, n)
				checkLeast(t, k, slices.Insert(slices.Clone(others), place, 10), 1+min(n, 1)/k.Lanes)
				for _, long := range []int{11, 12, 400} {
					checkNoLockings(t, k, slices.Insert(slices.Clone(others), place, long))
				}
			}
		}
	}
	checkPrefixes(t, chamberOf(10, 1), []int{1, 1, 10, 1}, 2, 1, 1)
	checkPrefixes(t, chamberOf(10, 2), []int{1, 1, 10, 1}, 4)
	checkNoLockings(t, chamberOf(200, 1), []int{201})
	checkNoLockings(t, chamberOf(399, 3), []int{400})
}

// slowPrefixes tries the longest prefix first.
func slowPrefixes(f fill, ships int) []int {
	var counts []int
	for begun := 0; begun < ships; {
		n := ships - begun
		for n > 0 && !f[(1<<n-1)<<begun] {
			n--
		}
		if n == 0 {
			return nil
		}
		counts = append(counts, n)
		begun += n
	}
	return counts
}

// slowLeast takes every set of ships that can be packed as the last locking of every set that has it.
func slowLeast(f fill) int {
	least := make([]int, len(f))
	for set := 1; set < len(f); set++ {
		least[set] = math.MaxInt
		for part := set; part > 0; part = (part - 1) & set {
			if f[part] && least[set&^part] < math.MaxInt {
				least[set] = min(least[set], least[set&^part]+1)
			}
		}
	}
	if least[len(f)-1] == math.MaxInt {
		return -1
	}
	return least[len(f)-1]
}

func TestLockingsOfEveryLoad(t *testing.T) {
	checkOfEveryLoad(t, func(k impl.Chamber, lengths []int, f fill) {
		least := slowLeast(f)
		checkLeast(t, k, lengths, least)
		if least < 0 {
			checkNoLockings(t, k, lengths)
			return
		}
		checkPrefixes(t, k, lengths, slowPrefixes(f, len(lengths))...)
	})
}

// ordersOf gives the list in every order.
func ordersOf(list []int) [][]int {
	if len(list) == 0 {
		return [][]int{nil}
	}
	var orders [][]int
	for i, x := range list {
		for _, rest := range ordersOf(slices.Delete(slices.Clone(list), i, i+1)) {
			orders = append(orders, append(rest, x))
		}
	}
	return orders
}

// No order of the ships needs fewer lockings than the least number, and some order needs just as many.
func TestLeastLockingsOfEveryOrder(t *testing.T) {
	for _, lengths := range slices.Concat(somewhatMixed(5, 10), somewhatMixed(6, 10)[:20]) {
		for _, k := range chambersOf(10) {
			least := impl.LeastLockings(k, lengths)
			fewest := math.MaxInt
			for _, order := range ordersOf(lengths) {
				fewest = min(fewest, len(impl.PrefixLockings(k, order)))
				checkLeast(t, k, order, least)
			}
			if fewest != least {
				t.Errorf("LeastLockings(%+v, %v) is %d, but an order needs %d", k, lengths, least, fewest)
			}
		}
	}
}

func TestLockingsRefuse(t *testing.T) {
	for _, k := range badChambers() {
		for _, lengths := range append(badLengths(), nil, []int{}, []int{5}, []int{5, 400}) {
			checkNoLockings(t, k, lengths)
		}
	}
	for _, lengths := range badLengths() {
		for _, k := range goodChambers() {
			checkNoLockings(t, k, lengths)
		}
	}
}
