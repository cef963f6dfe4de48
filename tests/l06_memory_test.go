package tests

import (
	"slices"
	"testing"

	"loop.example/g00831/impl"
)

func indicesOfEveryLine(list []impl.Ship) [][]int {
	var lists [][]int
	for line := range impl.MaxLines {
		lists = append(lists, impl.OfLine(list, line))
	}
	return lists
}

func TestFleetResultsAreNew(t *testing.T) {
	for _, list := range goodFleets() {
		kept := slices.Clone(list)
		first := indicesOfEveryLine(list)
		before := copyOfInts(first)
		for _, indices := range indicesOfEveryLine(list) {
			spoilInts(indices)
		}
		checkKeptInts(t, first, before, "after a change of later results")
		for i, indices := range first {
			spoilInts(indices)
			checkKeptInts(t, first[i+1:], before[i+1:], "after a change of another result")
		}
		if !slices.Equal(list, kept) {
			t.Errorf("after a change of the results, the fleet is %+v, not %+v", list, kept)
		}
		checkKeptInts(t, indicesOfEveryLine(list), before, "the same call again")
	}
}

func TestFleetResultsOutliveTheirArguments(t *testing.T) {
	for n := range 7 {
		list := someShips(n)
		first := indicesOfEveryLine(list)
		before := copyOfInts(first)
		clear(list)
		checkKeptInts(t, first, before, "after a change of the arguments")
	}
}

// The ships behind the fleet would make it longer than it may be, and have names of ships within it.
func TestFleetArgumentsAreUnchanged(t *testing.T) {
	for _, fleet := range append(goodFleets(), badFleets()...) {
		whole := append(slices.Concat(fleet, someShips(7)), fleet...)
		before := slices.Clone(whole)
		list := whole[:len(fleet)]
		ok := impl.FleetOk(list)
		impl.ShipNamed(list, "s3")
		impl.ShipNamed(list, "")
		sum := impl.LengthSum(list)
		lines := indicesOfEveryLine(list)
		if !slices.Equal(whole, before) {
			t.Errorf("the fleet or the room behind it became %+v, from %+v", whole, before)
		}
		checkFleetOk(t, slices.Clip(slices.Clone(fleet)), ok)
		checkLengthSum(t, slices.Clip(slices.Clone(fleet)), sum)
		checkKeptInts(t, indicesOfEveryLine(slices.Clip(slices.Clone(fleet))), lines, "without the room behind the fleet")
	}
}

func TestSailedChartsAreUnchanged(t *testing.T) {
	for _, good := range append(goodCharts(), badCharts()...) {
		c, whole := chartWithRoom(good)
		_, before := chartWithRoom(good)
		for _, s := range append(someShips(2), impl.Ship{}) {
			for _, number := range numbersAround(len(c.Segments)) {
				impl.MinutesOn(c, number, s)
			}
		}
		if !sameCharts(whole, before) {
			t.Errorf("the chart or the room behind it became %v, from %v", whole, before)
		}
	}
}

func TestFleetResultsStayTheSame(t *testing.T) {
	list := someShips(6)
	for range 200 {
		checkFleetOk(t, list, true)
		checkFleetOk(t, named("b", "a", "b"), false)
		checkShipNamed(t, named("b", "a", "b"), "b", 0)
		checkLengthSum(t, list, 705)
		checkOfLine(t, list, 1, 1, 5)
	}
}
