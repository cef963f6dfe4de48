package tests

import (
	"math"
	"slices"
	"testing"

	"loop.example/g00831/impl"
)

func shipOf(name string, length int, draught int, line int, tugs int) impl.Ship {
	return impl.Ship{Name: name, Length: length, Draught: draught, Line: line, Tugs: tugs}
}

func slowly(s impl.Ship) impl.Ship {
	s.Slow = true
	return s
}

// named gives small ships with these names, which differ in nothing else.
func named(names ...string) []impl.Ship {
	var list []impl.Ship
	for _, name := range names {
		list = append(list, shipOf(name, 100, 500, 0, 1))
	}
	return list
}

// someShips gives n ships with different names, of the lines in turn, every other one of them slow.
func someShips(n int) []impl.Ship {
	var list []impl.Ship
	for i := range n {
		s := shipOf("s"+impl.FormatInt(i), 100+7*i, 300+11*i, i%4, i%5)
		s.Slow = i%2 == 1
		list = append(list, s)
	}
	return list
}

// endsAround gives both ends of a range, what is next to them, and the least and the greatest int.
func endsAround(from int, to int) []int {
	return []int{math.MinInt, math.MinInt + 1, -from, from - 1, from, from + 1, to - 1, to, to + 1, math.MaxInt - 1, math.MaxInt}
}

func within(n int, from int, to int) bool { return from <= n && n <= to }

func goodShips() []impl.Ship {
	list := []impl.Ship{shipOf("a", 10, 100, 0, 0), shipOf("z", 400, 2000, 3, 4), shipOf("zzzzzzzz", 10, 2000, 3, 0), shipOf("a0123456", 400, 100, 0, 4), shipOf("s0", 11, 101, 1, 1), shipOf("s1", 399, 1999, 2, 3), shipOf("ship", 150, 819, 2, 2)}
	for _, s := range slices.Clone(list) {
		list = append(list, slowly(s))
	}
	return list
}

// badShips gives ships that are valid but for one field, and the ship whose fields are all zero values.
func badShips() []impl.Ship {
	list := []impl.Ship{{}, {Slow: true}, {Name: "a"}, shipOf("a", 0, 100, 0, 0), shipOf("a", 10, 0, 0, 0)}
	for _, name := range badNames() {
		list = append(list, shipOf(name, 150, 800, 1, 2))
	}
	for _, length := range []int{math.MinInt, -150, -10, 0, 9, 401, 402, math.MaxInt} {
		list = append(list, shipOf("bad", length, 800, 1, 2))
	}
	for _, draught := range []int{math.MinInt, -800, -100, 0, 99, 2001, 2002, math.MaxInt} {
		list = append(list, shipOf("bad", 150, draught, 1, 2))
	}
	for _, line := range []int{math.MinInt, -4, -1, 4, 5, math.MaxInt} {
		list = append(list, shipOf("bad", 150, 800, line, 2))
	}
	for _, tugs := range []int{math.MinInt, -4, -1, 5, 6, math.MaxInt} {
		list = append(list, shipOf("bad", 150, 800, 1, tugs))
	}
	for _, s := range slices.Clone(list) {
		list = append(list, slowly(s))
	}
	return list
}

func goodFleets() [][]impl.Ship {
	list := [][]impl.Ship{nil, {}, named("a", "b", "c", "d", "e", "f"), named("z", "y", "a"), named("a", "aa", "aaa", "aaaaaaaa", "a0", "a1"),
		{shipOf("c", 400, 2000, 3, 4), shipOf("b", 400, 2000, 3, 4), shipOf("a", 400, 2000, 3, 4), shipOf("f", 400, 2000, 3, 4), shipOf("e", 400, 2000, 3, 4), shipOf("d", 400, 2000, 3, 4)},
		{shipOf("a", 10, 100, 2, 0), shipOf("b", 20, 100, 0, 0), shipOf("c", 40, 100, 2, 0), shipOf("d", 80, 100, 1, 0), shipOf("e", 160, 100, 2, 0)}}
	for n := range 6 {
		list = append(list, someShips(n+1))
	}
	for _, s := range goodShips() {
		list = append(list, []impl.Ship{s}, append(named("x1", "x2"), s))
	}
	return list
}

// badFleets gives too many ships, a ship that is not valid at each place among valid ones, and two ships with one name at all places.
func badFleets() [][]impl.Ship {
	list := [][]impl.Ship{someShips(7), someShips(8), someShips(300), named("a", "a"), named("b", "a", "a"), make([]impl.Ship, 6), make([]impl.Ship, 7)}
	for _, s := range badShips() {
		list = append(list, []impl.Ship{s})
		for i := range 6 {
			fleet := someShips(6)
			fleet[i] = s
			list = append(list, fleet)
		}
	}
	for k := range 6 {
		for i := range k {
			fleet := someShips(6)
			fleet[k].Name = fleet[i].Name
			list = append(list, fleet, fleet[:k+1])
		}
	}
	return list
}

func checkShipOk(t *testing.T, s impl.Ship, want bool) {
	t.Helper()
	if got := impl.ShipOk(s); got != want {
		t.Errorf("ShipOk(%+v) is %v", s, got)
	}
}

func checkFleetOk(t *testing.T, list []impl.Ship, want bool) {
	t.Helper()
	if got := impl.FleetOk(list); got != want {
		t.Errorf("FleetOk(%+v) is %v", list, got)
	}
}

func TestShipConstants(t *testing.T) {
	if impl.MaxFleet != 6 || impl.MaxLines != 4 {
		t.Errorf("MaxFleet %d, MaxLines %d", impl.MaxFleet, impl.MaxLines)
	}
}

func TestShipOk(t *testing.T) {
	for _, s := range goodShips() {
		checkShipOk(t, s, true)
	}
	for _, s := range badShips() {
		checkShipOk(t, s, false)
	}
}

func TestShipOkOfEveryNumber(t *testing.T) {
	for n := -2100; n <= 2100; n++ {
		checkShipOk(t, shipOf("a", n, 800, 1, 2), within(n, 10, 400))
		checkShipOk(t, shipOf("a", 150, n, 1, 2), within(n, 100, 2000))
		checkShipOk(t, shipOf("a", 150, 800, n, 2), within(n, 0, 3))
		checkShipOk(t, shipOf("a", 150, 800, 1, n), within(n, 0, 4))
	}
}

func TestShipOkAtTheEndsOfEveryField(t *testing.T) {
	for _, length := range endsAround(10, 400) {
		for _, draught := range endsAround(100, 2000) {
			for _, line := range endsAround(0, 3) {
				for _, tugs := range endsAround(0, 4) {
					s := shipOf("a", length, draught, line, tugs)
					want := within(length, 10, 400) && within(draught, 100, 2000) && within(line, 0, 3) && within(tugs, 0, 4)
					checkShipOk(t, s, want)
					checkShipOk(t, slowly(s), want)
				}
			}
		}
	}
}

func TestShipOkOfEveryName(t *testing.T) {
	for _, name := range []string{"a", "z", "m9", "a0", "ship", "abcdefgh", "z9999999"} {
		checkShipOk(t, shipOf(name, 150, 800, 1, 2), true)
	}
	for b := range 256 {
		first := string([]byte{byte(b)})
		letter := within(b, 'a', 'z')
		checkShipOk(t, shipOf(first, 150, 800, 1, 2), letter)
		checkShipOk(t, shipOf(first+"x", 150, 800, 1, 2), letter)
		checkShipOk(t, shipOf("x"+first, 150, 800, 1, 2), letter || within(b, '0', '9'))
	}
}

func TestFleetOk(t *testing.T) {
	for _, list := range goodFleets() {
		checkFleetOk(t, list, true)
	}
	for _, list := range badFleets() {
		checkFleetOk(t, list, false)
	}
}

func TestFleetOkOfEveryNumberOfShips(t *testing.T) {
	for n := range 30 {
		checkFleetOk(t, someShips(n), n <= 6)
	}
}

// Ships with one name are refused even if they differ in all else, and ships that differ in their name alone are not.
func TestFleetOkOfEveryTwoNames(t *testing.T) {
	names := append(badNames(), "a", "b", "aa", "a0", "abcdefgh", "abcdefgg")
	for _, a := range names {
		for _, b := range names {
			want := impl.IsName(a) && impl.IsName(b) && a != b
			checkFleetOk(t, named(a, b), want)
			checkFleetOk(t, []impl.Ship{shipOf(a, 10, 100, 0, 0), slowly(shipOf(b, 400, 2000, 3, 4))}, want)
			checkFleetOk(t, named("x", a, "y", "z", b), want)
		}
	}
}
