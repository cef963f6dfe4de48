package tests

import (
	"slices"
	"testing"

	"loop.example/g00831/impl"
)

func checkShipNamed(t *testing.T, list []impl.Ship, name string, want int) {
	t.Helper()
	if got := impl.ShipNamed(list, name); got != want {
		t.Errorf("ShipNamed(%+v, %q) is %d, want %d", list, name, got, want)
	}
}

func TestShipNamed(t *testing.T) {
	list := named("sea", "bar", "quay", "s", "se", "seas")
	for i, name := range []string{"sea", "bar", "quay", "s", "se", "seas"} {
		checkShipNamed(t, list, name, i)
	}
	for _, name := range append(badNames(), "b", "ba", "bars", "Sea", "a", "quayquay") {
		checkShipNamed(t, list, name, -1)
		checkShipNamed(t, nil, name, -1)
	}
}

func TestShipNamedOfTheFirst(t *testing.T) {
	checkShipNamed(t, named("a", "a"), "a", 0)
	checkShipNamed(t, named("b", "a", "c", "a", "a"), "a", 1)
	checkShipNamed(t, named("b", "c", "c", "b"), "b", 0)
	checkShipNamed(t, named("b", "c", "c", "b"), "c", 1)
	for i := range 6 {
		for k := range i {
			list := someShips(6)
			name := list[k].Name
			list[i].Name = name
			checkShipNamed(t, list, name, k)
		}
	}
}

// A fleet need not be valid, and a name need not satisfy IsName.
func TestShipNamedOfBadFleets(t *testing.T) {
	for _, name := range badNames() {
		checkShipNamed(t, named("a", name, "b", name), name, 1)
	}
	checkShipNamed(t, make([]impl.Ship, 7), "", 0)
	many := someShips(300)
	checkShipNamed(t, many, "s6", 6)
	checkShipNamed(t, many, "s299", 299)
	checkShipNamed(t, many, "s300", -1)
	for _, list := range badFleets() {
		for _, s := range append(slices.Clone(list), named("q", "", "A")...) {
			want := -1
			for i := len(list) - 1; i >= 0; i-- {
				if list[i].Name == s.Name {
					want = i
				}
			}
			checkShipNamed(t, list, s.Name, want)
		}
	}
}

func checkLengthSum(t *testing.T, list []impl.Ship, want int) {
	t.Helper()
	if got := impl.LengthSum(list); got != want {
		t.Errorf("LengthSum(%+v) is %d, want %d", list, got, want)
	}
}

func TestLengthSum(t *testing.T) {
	checkLengthSum(t, nil, 0)
	checkLengthSum(t, []impl.Ship{}, 0)
	checkLengthSum(t, []impl.Ship{shipOf("a", 10, 2000, 3, 4)}, 10)
	checkLengthSum(t, []impl.Ship{shipOf("a", 150, 800, 0, 1), slowly(shipOf("b", 120, 600, 2, 0))}, 270)
	checkLengthSum(t, []impl.Ship{shipOf("b", 399, 100, 1, 0), shipOf("a", 11, 100, 1, 0), shipOf("c", 11, 100, 1, 0)}, 421)
	checkLengthSum(t, named("a", "b", "c", "d", "e", "f"), 600)
	checkLengthSum(t, goodFleets()[5], 2400)
	checkLengthSum(t, goodFleets()[6], 310)
}

// Each ship that is added makes the sum longer by its own length.
func TestLengthSumOfEveryBeginning(t *testing.T) {
	for _, list := range goodFleets() {
		sum := 0
		for i, s := range list {
			checkLengthSum(t, list[:i], sum)
			sum += s.Length
		}
		checkLengthSum(t, list, sum)
	}
	for _, list := range badFleets() {
		checkLengthSum(t, list, 0)
	}
}

func checkOfLine(t *testing.T, list []impl.Ship, line int, want ...int) {
	t.Helper()
	if got := impl.OfLine(list, line); !slices.Equal(got, want) {
		t.Errorf("OfLine(%+v, %d) is %v, want %v", list, line, got, want)
	}
}

func fleetOfLines(lines ...int) []impl.Ship {
	list := someShips(len(lines))
	for i, line := range lines {
		list[i].Line = line
	}
	return list
}

func TestOfLine(t *testing.T) {
	list := fleetOfLines(2, 0, 2, 1, 2, 0)
	checkOfLine(t, list, 0, 1, 5)
	checkOfLine(t, list, 1, 3)
	checkOfLine(t, list, 2, 0, 2, 4)
	checkOfLine(t, list, 3)
	checkOfLine(t, fleetOfLines(3, 3, 3, 3, 3, 3), 3, 0, 1, 2, 3, 4, 5)
	checkOfLine(t, fleetOfLines(3), 3, 0)
	checkOfLine(t, fleetOfLines(3), 0)
	for _, line := range numbersAround(4) {
		checkOfLine(t, nil, line)
	}
}

// No ship of a fleet is of a line below 0, of MaxLines or above it, so no list has any.
func TestOfLineOfEveryFleet(t *testing.T) {
	for n := range 7 {
		for _, lines := range beginsOf([]int{0, 1, 2, 3}, n) {
			list := fleetOfLines(lines...)
			for _, line := range numbersAround(4) {
				var want []int
				for i, other := range lines {
					if other == line {
						want = append(want, i)
					}
				}
				checkOfLine(t, list, line, want...)
			}
		}
	}
}

func TestOfLineRefuses(t *testing.T) {
	for _, list := range badFleets() {
		for _, line := range numbersAround(4) {
			checkOfLine(t, list, line)
		}
		for _, s := range list {
			checkOfLine(t, list, s.Line)
		}
	}
}

// Every ship is recovered from its name, and is in the list of its line and of no other one.
func TestShipsAreRecovered(t *testing.T) {
	for _, list := range goodFleets() {
		for i, s := range list {
			checkShipNamed(t, list, s.Name, i)
			for line := range impl.MaxLines {
				if got := slices.Contains(impl.OfLine(list, line), i); got != (line == s.Line) {
					t.Errorf("OfLine(%+v, %d) has %d: %v", list, line, i, got)
				}
			}
		}
	}
}
