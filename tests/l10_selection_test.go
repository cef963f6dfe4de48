package tests

import (
	"slices"
	"testing"

	"loop.example/g00831/impl"
)

func checkMost(t *testing.T, k impl.Chamber, lengths []int, want int) {
	t.Helper()
	if got := impl.MostShips(k, lengths); got != want {
		t.Errorf("MostShips(%+v, %v) is %d, want %d", k, lengths, got, want)
	}
}

func TestMostShipsWithoutShips(t *testing.T) {
	for _, k := range goodChambers() {
		checkMost(t, k, nil, 0)
		checkMost(t, k, []int{}, 0)
	}
}

func TestMostShips(t *testing.T) {
	checkMost(t, chamberOf(200, 1), []int{120, 90, 80, 60}, 2)
	checkMost(t, chamberOf(200, 2), []int{120, 90, 80, 60}, 4)
	checkMost(t, chamberOf(10, 1), []int{10}, 1)
	checkMost(t, chamberOf(10, 1), []int{11}, 0)
	checkMost(t, chamberOf(10, 3), slices.Repeat([]int{400}, 8), 0)
	checkMost(t, chamberOf(10, 3), slices.Repeat([]int{6}, 8), 3)
	checkMost(t, chamberOf(10, 3), slices.Repeat([]int{5}, 8), 6)
	checkMost(t, chamberOf(10, 3), slices.Repeat([]int{3}, 8), 8)
	checkMost(t, chamberOf(10, 1), slices.Repeat([]int{1}, 8), 8)
	checkMost(t, chamberOf(10, 2), []int{4, 5, 6, 5}, 4)
	checkMost(t, chamberOf(10, 2), []int{4, 5, 6, 6}, 3)
}

// Ships that take too much room are left out, wherever they are in the list.
func TestMostShipsLeavesShipsOut(t *testing.T) {
	for place := range 4 {
		for _, long := range []int{5, 9, 10, 11, 400} {
			checkMost(t, chamberOf(10, 1), slices.Insert([]int{3, 3, 4}, place, long), 3)
			checkMost(t, chamberOf(10, 2), slices.Insert([]int{6, 5, 4}, place, long), 3+min(5/long, 1))
		}
	}
	checkMost(t, chamberOf(10, 1), []int{10, 5, 5}, 2)
	checkMost(t, chamberOf(10, 1), []int{5, 10, 5}, 2)
	checkMost(t, chamberOf(10, 1), []int{5, 5, 10}, 2)
	checkMost(t, chamberOf(10, 1), []int{11, 12, 400}, 0)
	checkMost(t, chamberOf(10, 1), []int{7, 6, 5, 4, 3, 2, 1, 8}, 4)
	checkMost(t, chamberOf(10, 3), []int{10, 10, 10, 1, 10, 9, 9, 9}, 4)
}

// A fill says of every set of ships, given by its bits, whether they can be packed together.
type fill []bool

// fillOf divides every set into the ships of one lane and those of the others.
func fillOf(k impl.Chamber, lengths []int) fill {
	sets := 1 << len(lengths)
	sums := make([]int, sets)
	for set := 1; set < sets; set++ {
		for i, length := range lengths {
			sums[set] += set >> i & 1 * length
		}
	}
	packed := make(fill, sets)
	packed[0] = true
	for range k.Lanes {
		wider := make(fill, sets)
		for set := range sets {
			for part := set; ; part = (part - 1) & set {
				wider[set] = wider[set] || sums[part] <= k.Length && packed[set&^part]
				if part == 0 {
					break
				}
			}
		}
		packed = wider
	}
	return packed
}

func shipsIn(set int) int {
	ships := 0
	for ; set > 0; set /= 2 {
		ships += set % 2
	}
	return ships
}

func (f fill) most() int {
	most := 0
	for set, packed := range f {
		if packed {
			most = max(most, shipsIn(set))
		}
	}
	return most
}

// checkOfEveryLoad asks for chambers that are too short for some of the ships, and for longer ones.
func checkOfEveryLoad(t *testing.T, check func(k impl.Chamber, lengths []int, f fill)) {
	t.Helper()
	for _, lengths := range loads() {
		for _, length := range []int{10, 13} {
			for _, k := range chambersOf(length) {
				check(k, lengths, fillOf(k, lengths))
			}
		}
	}
}

func TestMostShipsOfEveryLoad(t *testing.T) {
	checkOfEveryLoad(t, func(k impl.Chamber, lengths []int, f fill) {
		most := f.most()
		checkMost(t, k, lengths, most)
		if _, ok := impl.PackShips(k, lengths); ok != (most == len(lengths)) || ok != f[len(f)-1] {
			t.Errorf("PackShips(%+v, %v) is %v, and at most %d ships can be packed", k, lengths, ok, most)
		}
	})
}

func TestMostShipsRefuses(t *testing.T) {
	for _, k := range badChambers() {
		for _, lengths := range append(badLengths(), nil, []int{5}, []int{5, 400}) {
			checkMost(t, k, lengths, -1)
		}
	}
	for _, lengths := range badLengths() {
		for _, k := range goodChambers() {
			checkMost(t, k, lengths, -1)
		}
	}
}
