package tests

import (
	"math"
	"slices"
	"testing"

	"loop.example/g00831/impl"
)

func berthOf(name string, length int, depth int) impl.Berth {
	return impl.Berth{Name: name, Length: length, Depth: depth}
}

// someBerths gives n berths with different names, each longer and deeper than the one before. Up to four of them are a valid list.
func someBerths(n int) []impl.Berth {
	var list []impl.Berth
	for i := range n {
		list = append(list, berthOf("n"+impl.FormatInt(i), 105+15*i, 310+25*i))
	}
	return list
}

// wideBerths gives n berths that fit every ship of someShips. Up to four of them are a valid list.
func wideBerths(n int) []impl.Berth {
	var list []impl.Berth
	for i := range n {
		list = append(list, berthOf("w"+impl.FormatInt(i), 400, 3000))
	}
	return list
}

func goodQuays() [][]impl.Berth {
	list := [][]impl.Berth{nil, {}, {berthOf("a", 10, 0)}, {berthOf("zzzzzzzz", 400, 3000)}, {berthOf("a0123456", 10, 3000), berthOf("a", 400, 0)},
		{berthOf("a", 150, 800), berthOf("aa", 150, 800), berthOf("a0", 150, 800), berthOf("b", 150, 800)}}
	for n := range 4 {
		list = append(list, someBerths(n+1), wideBerths(n+1))
	}
	return list
}

// badBerths gives berths that are valid but for one field, and the berth whose fields are all zero values.
func badBerths() []impl.Berth {
	list := []impl.Berth{{}, {Name: "a"}, {Length: 150}, berthOf("", 400, 3000)}
	for _, name := range badNames() {
		list = append(list, berthOf(name, 150, 800))
	}
	for _, length := range []int{math.MinInt, math.MinInt + 1, -150, -10, -1, 0, 1, 9, 401, 402, math.MaxInt - 1, math.MaxInt} {
		list = append(list, berthOf("bad", length, 800))
	}
	for _, depth := range []int{math.MinInt, math.MinInt + 1, -3000, -2, -1, 3001, 3002, math.MaxInt - 1, math.MaxInt} {
		list = append(list, berthOf("bad", 150, depth))
	}
	return list
}

// badQuays gives too many berths, a berth that is not valid at each place among valid ones, and two berths with one name at all places.
func badQuays() [][]impl.Berth {
	list := [][]impl.Berth{wideBerths(5), wideBerths(6), wideBerths(300), make([]impl.Berth, 4), make([]impl.Berth, 5)}
	for _, b := range badBerths() {
		list = append(list, []impl.Berth{b})
		for i := range 4 {
			quay := wideBerths(4)
			quay[i] = b
			list = append(list, quay)
		}
	}
	for k := range 4 {
		for i := range k {
			quay, same := wideBerths(4), someBerths(4)
			quay[k].Name = quay[i].Name
			same[k] = same[i]
			list = append(list, quay, quay[:k+1], same, same[:k+1], []impl.Berth{same[i], same[k]})
		}
	}
	return list
}

func checkBerthsOk(t *testing.T, list []impl.Berth, want bool) {
	t.Helper()
	if got := impl.BerthsOk(list); got != want {
		t.Errorf("BerthsOk(%+v) is %v", list, got)
	}
}

func checkFits(t *testing.T, b impl.Berth, s impl.Ship, want bool) {
	t.Helper()
	if got := impl.FitsBerth(b, s); got != want {
		t.Errorf("FitsBerth(%+v, %+v) is %v", b, s, got)
	}
}

func TestBerthConstants(t *testing.T) {
	if impl.MaxBerths != 4 || impl.MaxStays != 12 {
		t.Errorf("MaxBerths is %d, MaxStays is %d", impl.MaxBerths, impl.MaxStays)
	}
}

func TestBerthsOk(t *testing.T) {
	for _, list := range goodQuays() {
		checkBerthsOk(t, list, true)
	}
	for _, list := range badQuays() {
		checkBerthsOk(t, list, false)
	}
}

func TestBerthsOkOfEveryNumber(t *testing.T) {
	for n := range 20 {
		checkBerthsOk(t, someBerths(n)[:n], n <= 4)
		checkBerthsOk(t, slices.Repeat(someBerths(1), n), n <= 1)
	}
}

func TestBerthsOkOfEverySize(t *testing.T) {
	for i := range 4 {
		for _, length := range endsAround(10, 400) {
			for _, depth := range endsAround(0, 3000) {
				list := someBerths(4)
				list[i].Length, list[i].Depth = length, depth
				ok := within(length, 10, 400) && within(depth, 0, 3000)
				checkBerthsOk(t, list, ok)
				checkBerthsOk(t, list[i:i+1], ok)
			}
		}
	}
}

// Berths need different names, but nothing else of them has to differ, and the same sizes do not make names the same.
func TestBerthsOkOfEveryNames(t *testing.T) {
	for _, names := range beginsOf([]int{0, 1, 2, 3}, 4) {
		var alike, mixed []impl.Berth
		for i, name := range names {
			alike = append(alike, berthOf("n"+impl.FormatInt(name), 150, 800))
			mixed = append(mixed, berthOf("n"+impl.FormatInt(name), 150+i, 800-i))
		}
		for n := range 5 {
			different := len(slices.Compact(slices.Sorted(slices.Values(names[:n])))) == n
			checkBerthsOk(t, alike[:n], different)
			checkBerthsOk(t, mixed[:n], different)
		}
	}
}

func TestFitsBerth(t *testing.T) {
	b := berthOf("n", 150, 800)
	checkFits(t, b, shipOf("a", 150, 800, 0, 1), true)
	checkFits(t, b, slowly(shipOf("a", 150, 800, 0, 1)), true)
	checkFits(t, b, shipOf("a", 149, 799, 3, 4), true)
	checkFits(t, b, shipOf("a", 10, 100, 0, 0), true)
	checkFits(t, b, shipOf("a", 151, 800, 0, 1), false)
	checkFits(t, b, shipOf("a", 150, 801, 0, 1), false)
	checkFits(t, b, slowly(shipOf("a", 151, 800, 0, 1)), false)
	checkFits(t, b, slowly(shipOf("a", 150, 801, 0, 1)), false)
	checkFits(t, b, shipOf("a", 400, 100, 0, 1), false)
	checkFits(t, b, shipOf("a", 10, 2000, 0, 1), false)
}

func TestFitsBerthOfEverySize(t *testing.T) {
	for _, s := range goodShips() {
		for _, length := range append(endsAround(10, 400), s.Length-1, s.Length, s.Length+1) {
			for _, depth := range append(endsAround(100, 2000), s.Draught-1, s.Draught, s.Draught+1, 0, 3000, 3001) {
				checkFits(t, berthOf("n", length, depth), s, length >= s.Length && depth >= s.Draught)
			}
		}
	}
}

// The berth itself need not be valid.
func TestFitsBerthThatIsNotValid(t *testing.T) {
	s := shipOf("a", 10, 100, 0, 1)
	for _, name := range badNames() {
		checkFits(t, berthOf(name, 10, 100), s, true)
		checkFits(t, berthOf(name, 9, 100), s, false)
		checkFits(t, berthOf(name, 10, 99), s, false)
	}
	for _, b := range badBerths() {
		checkFits(t, b, s, b.Length >= 10 && b.Depth >= 100)
	}
	checkFits(t, berthOf("", math.MaxInt, math.MaxInt), shipOf("z", 400, 2000, 3, 4), true)
	checkFits(t, berthOf("", math.MinInt, math.MaxInt), s, false)
	checkFits(t, berthOf("", math.MaxInt, math.MinInt), s, false)
	checkFits(t, impl.Berth{}, s, false)
}

func TestFitsBerthRefusesShips(t *testing.T) {
	for _, s := range badShips() {
		checkFits(t, berthOf("n", 400, 3000), s, false)
		checkFits(t, berthOf("n", math.MaxInt, math.MaxInt), s, false)
		checkFits(t, berthOf("n", s.Length, s.Draught), s, false)
		checkFits(t, impl.Berth{}, s, false)
	}
}
