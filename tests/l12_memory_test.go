package tests

import (
	"slices"
	"testing"

	"loop.example/g00831/impl"
)

// spoilStays changes a list and the room behind it.
func spoilStays(list []impl.Stay) {
	list = list[:cap(list)]
	for i := range list {
		list[i] = stayOf(-77, -78, -79, -80)
	}
}

func checkKeptStays(t *testing.T, got []impl.Stay, want []impl.Stay, what string) {
	t.Helper()
	if !slices.Equal(got, want) {
		t.Errorf("%s: %+v, want %+v", what, got, want)
	}
}

// asksToKeep gives asks for which there are berths.
func asksToKeep() [][]impl.Stay {
	return [][]impl.Stay{nil, someStays(1), someStays(6), busyStays(6), staysOf(stayOf(0, 7, 0, 10), stayOf(1, -7, 5, 15), stayOf(2, 9, 0, 2880)), staysOf(stayOf(3, 1, 0, 10), stayOf(3, 1, 10, 20))}
}

func TestAllottedStaysAreNew(t *testing.T) {
	for _, kept := range asksToKeep() {
		asks := slices.Clone(kept)
		first, ok := impl.AllotBerths(wideBerths(4), someShips(6), asks)
		before := slices.Clone(first)
		if !ok || len(first) != len(kept) {
			t.Errorf("AllotBerths of %+v is %+v, %v", kept, first, ok)
		}
		later, _ := impl.AllotBerths(wideBerths(4), someShips(6), asks)
		checkKeptStays(t, later, before, "the same call again")
		spoilStays(later)
		checkKeptStays(t, first, before, "after a change of a later result")
		checkKeptStays(t, asks, kept, "the asks after a change of a result")
		spoilStays(asks)
		checkKeptStays(t, first, before, "after a change of the asks")
	}
}

// Even where the berths are those that were asked for, the result is a list of its own.
func TestAllottedStaysThatWereAskedFor(t *testing.T) {
	asks := withBerths(someStays(6), 0, 0, 0, 0, 0, 0)
	kept := slices.Clone(asks)
	stays, _ := impl.AllotBerths(wideBerths(4), someShips(6), asks)
	checkKeptStays(t, stays, kept, "the stays")
	spoilStays(stays)
	checkKeptStays(t, asks, kept, "the asks after a change of the stays")
	again, _ := impl.AllotBerths(wideBerths(4), someShips(6), asks)
	spoilStays(asks)
	checkKeptStays(t, again, kept, "the stays after a change of the asks")
}

func TestFreeTimesAreNew(t *testing.T) {
	berths := wideBerths(2)
	for _, kept := range asksToKeep() {
		stays := slices.Clone(kept)
		first := [][]impl.Window{impl.FreeTimes(berths, stays, 0), impl.FreeTimes(berths, stays, 1), impl.FreeTimes(berths, stays, 0)}
		before := copiesOf(first)
		spoilWindows(impl.FreeTimes(berths, stays, 0))
		checkKept(t, first, before, "after a change of a later result")
		spoilWindows(first[0])
		checkKept(t, first[1:], before[1:], "after a change of another result")
		checkKeptStays(t, stays, kept, "the stays after a change of a result")
		spoilStays(stays)
		checkKept(t, first[1:], before[1:], "after a change of the stays")
	}
}

// callBerths calls every function that takes lists, and gives the stays and the windows of those that return any.
func callBerths(berths []impl.Berth, fleet []impl.Ship, stays []impl.Stay) ([]impl.Stay, []impl.Window) {
	impl.BerthsOk(berths)
	impl.StaysOk(berths, fleet, stays)
	impl.BerthLoad(stays, 0)
	for ship := range 7 {
		impl.FindBerth(berths, fleet, stays, ship, 1000, 1100)
	}
	allotted, _ := impl.AllotBerths(berths, fleet, stays)
	return allotted, impl.FreeTimes(berths, stays, 0)
}

func checkBerthsTouchNothing(t *testing.T, kept []impl.Berth, ships []impl.Ship, asks []impl.Stay) {
	t.Helper()
	berths, wholeBerths := roomBehind(kept, berthOf("x", 400, 3000), impl.Berth{})
	fleet, wholeFleet := roomBehind(ships, shipOf("x", 150, 800, 0, 1), impl.Ship{})
	stays, wholeStays := roomBehind(asks, stayOf(0, 0, 0, 2880), stayOf(0, 9, 5, 6), impl.Stay{})
	beforeBerths, beforeFleet, beforeStays := slices.Clone(wholeBerths), slices.Clone(wholeFleet), slices.Clone(wholeStays)
	allotted, free := callBerths(berths, fleet, stays)
	wantAllotted, wantFree := callBerths(slices.Clip(slices.Clone(kept)), slices.Clip(slices.Clone(ships)), slices.Clip(slices.Clone(asks)))
	checkKeptStays(t, allotted, wantAllotted, "without the room behind the arguments")
	checkWindows(t, free, wantFree, "without the room behind the arguments")
	spoilStays(allotted)
	spoilWindows(free)
	if !slices.Equal(wholeBerths, beforeBerths) || !slices.Equal(wholeFleet, beforeFleet) || !slices.Equal(wholeStays, beforeStays) {
		t.Errorf("the arguments are changed: %+v, %+v, %+v, want %+v, %+v, %+v", wholeBerths, wholeFleet, wholeStays, beforeBerths, beforeFleet, beforeStays)
	}
}

func TestBerthArgumentsAreUnchanged(t *testing.T) {
	mixed, sizes := sizedQuay()
	lists := append(asksToKeep(), someStays(7), someStays(12), someStays(13), staysOf(stayOf(-1, -1, -1, -1)), staysOf(stayOf(0, 0, 0, 10), stayOf(3, 0, 0, 10), stayOf(5, 0, 0, 10)))
	for seed := range 20 {
		lists = append(lists, crowdedAsks(seed, 1+seed%6))
	}
	for _, stays := range lists {
		for _, berths := range [][]impl.Berth{wideBerths(4), someBerths(4), wideBerths(1), mixed, nil, make([]impl.Berth, 2)} {
			checkBerthsTouchNothing(t, berths, someShips(6), stays)
			checkBerthsTouchNothing(t, berths, sizes, stays)
			checkBerthsTouchNothing(t, berths, named("a", "a"), stays)
		}
	}
}

// What lies behind a list is no element of it, even where its memory can be reached.
func TestBerthsWithoutTheRoomBehind(t *testing.T) {
	berths, wholeBerths := roomBehind(wideBerths(2), wideBerths(3)...)
	fleet, _ := roomBehind(someShips(2), someShips(2)...)
	stays, wholeStays := roomBehind(staysOf(stayOf(0, 0, 0, 10)), stayOf(1, 0, 5, 15))
	checkBerthsOk(t, berths, true)
	checkBerthsOk(t, wholeBerths, false)
	checkStays(t, berths, fleet, stays, true)
	checkStays(t, berths, fleet, wholeStays, false)
	checkFound(t, berths, fleet, stays, stayOf(1, 0, 5, 15), 1)
	checkFound(t, berths, fleet, stays, stayOf(2, 0, 5, 15), -1)
	checkFree(t, berths, stays, 0, windowsOf(10, 2880))
	checkFree(t, berths, stays, 2, nil)
	checkAllotted(t, berths, fleet, stays, 0)
	checkLoad(t, stays, 0, 10)
}

func TestBerthResultsStayTheSame(t *testing.T) {
	berths, fleet := sizedQuay()
	asks := staysOf(stayOf(0, 0, 0, 10), stayOf(1, 0, 5, 15), stayOf(3, 3, 0, 5))
	for range 100 {
		checkAllotted(t, berths, fleet, asks, 0, 1, 3)
		checkNotAllotted(t, berths[:2], fleet, asks)
		checkFree(t, berths, asks, 0, windowsOf(15, 2880))
		checkFound(t, berths, fleet, asks[:1], stayOf(1, 0, 0, 10), 1)
		checkLoad(t, asks, 0, 20)
		checkStays(t, berths, fleet, asks, false)
	}
}
