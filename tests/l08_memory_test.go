package tests

import (
	"slices"
	"testing"

	"loop.example/g00831/impl"
)

// spoilPassages changes a list and the room behind it.
func spoilPassages(list []impl.Passage) {
	list = list[:cap(list)]
	for i := range list {
		list[i] = passageOf(-77, -78, -79, -80)
	}
}

func spoilTrip(v trip) {
	spoil(v.f)
	spoilInts(v.route)
	clear(v.c.Points)
	clear(v.c.Segments)
}

func copyOfTrip(v trip) trip {
	return trip{copyOfForecast(v.f), copyOfChart(v.c), v.s, v.from, slices.Clone(v.route)}
}

// sailResults gives the minutes of both ways to sail a route.
func sailResults(v trip, minute int) [][]int {
	sailed, _ := v.sail(minute)
	first, _ := v.first(minute)
	return [][]int{sailed, first}
}

func TestSailedMinutesAreNew(t *testing.T) {
	for _, good := range manyTrips() {
		v := copyOfTrip(good)
		starts, _ := v.first(0)
		first := sailResults(v, starts[0])
		before := copyOfInts(first)
		for _, list := range sailResults(v, starts[0]) {
			spoilInts(list)
		}
		checkKeptInts(t, first, before, "after a change of later results")
		for i, list := range first {
			spoilInts(list)
			checkKeptInts(t, first[i+1:], before[i+1:], "after a change of another result")
		}
		checkKeptInts(t, sailResults(v, starts[0]), before, "the same calls again")
		first = sailResults(v, starts[0])
		spoilTrip(v)
		checkKeptInts(t, first, before, "after a change of the arguments")
	}
}

func TestPassagesAreNew(t *testing.T) {
	for _, good := range manyTrips() {
		v := copyOfTrip(good)
		starts, _ := v.first(0)
		kept := slices.Clone(starts)
		first := impl.PassagesOf(v.c, 2, v.s, v.from, v.route, starts)
		before := slices.Clone(first)
		spoilPassages(impl.PassagesOf(v.c, 2, v.s, v.from, v.route, starts))
		if !slices.Equal(first, before) || !slices.Equal(starts, kept) {
			t.Errorf("after a change of later results: %+v and %v, want %+v and %v", first, starts, before, kept)
		}
		spoilTrip(v)
		spoilInts(starts)
		if !slices.Equal(first, before) {
			t.Errorf("after a change of the arguments: %+v, want %+v", first, before)
		}
	}
}

// roomBehind gives a list with something of its own behind its end, and the whole of it.
func roomBehind[T any](list []T, behind ...T) ([]T, []T) {
	whole := append(slices.Clone(list), behind...)
	return whole[:len(list)], whole
}

// callSails calls every function that takes a route.
func callSails(v trip, starts []int) {
	for _, minute := range []int{-1, 0, 50, 400, 2881} {
		sailResults(v, minute)
	}
	impl.ArrivalOf(v.c, v.s, v.route, starts)
	impl.PassagesOf(v.c, 0, v.s, v.from, v.route, starts)
}

// callPassages calls every function that takes passages.
func callPassages(f impl.Forecast, c impl.Chart, fleet []impl.Ship, list []impl.Passage) {
	impl.IsChain(c, list)
	for _, p := range list {
		impl.PassageOk(c, fleet, p)
		impl.IsSafePassage(f, c, fleet, p)
	}
}

// checkUntouched calls all functions with arguments that have room behind them.
func checkUntouched(t *testing.T, v trip, starts []int) {
	t.Helper()
	f, wholeF := forecastWithRoom(v.f)
	_, beforeF := forecastWithRoom(v.f)
	c, wholeC := chartWithRoom(v.c)
	_, beforeC := chartWithRoom(v.c)
	route, wholeRoute := roomBehind(v.route, 3, 2, 1)
	begun, wholeStarts := roomBehind(starts, 400, 401, 402)
	fleet, wholeFleet := roomBehind([]impl.Ship{v.s, shipOf("other", 99, 999, 0, 0)}, someShips(6)...)
	list, wholeList := roomBehind(chainOf(passageOf(0, 0, 0, 30), backward(passageOf(1, 1, 0, 20)), passageOf(2, 9, 0, 0)), passageOf(0, 0, 5, 35), impl.Passage{})
	ships, passages := slices.Clone(wholeFleet), slices.Clone(wholeList)
	callSails(trip{f, c, v.s, v.from, route}, begun)
	callPassages(f, c, fleet, list)
	if !sameForecasts(wholeF, beforeF) || !sameCharts(wholeC, beforeC) {
		t.Errorf("the forecast, the chart or the room behind them became %v and %v, from %v and %v", wholeF, wholeC, beforeF, beforeC)
	}
	checkKeptInts(t, [][]int{wholeRoute, wholeStarts}, [][]int{append(slices.Clone(v.route), 3, 2, 1), append(slices.Clone(starts), 400, 401, 402)}, "the route and the starts with the room behind them")
	if !slices.Equal(wholeFleet, ships) || !slices.Equal(wholeList, passages) {
		t.Errorf("the fleet, the passages or the room behind them became %+v and %+v, from %+v and %+v", wholeFleet, wholeList, ships, passages)
	}
}

func TestPassageArgumentsAreUnchanged(t *testing.T) {
	for _, v := range manyTrips() {
		starts, _ := v.first(0)
		checkUntouched(t, v, starts)
		checkUntouched(t, v, nil)
		checkUntouched(t, trip{v.f, v.c, impl.Ship{}, v.from, v.route}, starts)
		checkUntouched(t, trip{v.f, v.c, v.s, -1, v.route}, starts)
		checkUntouched(t, trip{v.f, v.c, v.s, v.from, []int{0, 0}}, starts)
	}
	for _, f := range badForecasts() {
		checkUntouched(t, trip{f, channel(3000, 30), deep(100), 0, []int{0}}, []int{0})
	}
	for _, c := range append(goodCharts(), badCharts()...) {
		checkUntouched(t, trip{still(), c, deep(100), 0, []int{0}}, []int{0})
	}
}

// What lies behind a list is no element of it, even where its memory can be reached.
func TestPassagesWithoutTheRoomBehind(t *testing.T) {
	c, _ := chartWithRoom(channel(3000, 30))
	fleet, _ := roomBehind([]impl.Ship{deep(800)}, shipOf("other", 99, 999, 0, 0))
	checkPassageOk(t, c, fleet, passageOf(1, 0, 0, 30), false)
	checkPassageOk(t, c, fleet, passageOf(0, 1, 0, 30), false)
	checkPassageOk(t, c, fleet, passageOf(0, 2, 0, 30), false)
	checkChain(t, c, chainOf(passageOf(0, 2, 0, 30)), false)
	checkArrival(t, c, deep(800), []int{2}, []int{0}, -1)
	route, _ := roomBehind([]int{0}, 0)
	starts, _ := roomBehind([]int{5}, 60)
	checkArrival(t, c, deep(800), route, starts, 35)
	checkPassages(t, c, 0, deep(800), 0, route, starts, passageOf(0, 0, 5, 35))
	checkNoSail(t, trip{still(), c, deep(800), 0, []int{1}})
}

func TestSailsStayTheSame(t *testing.T) {
	for range 50 {
		checkSail(t, gateTrip("..."), 49, 49, 69)
		checkSail(t, gateTrip("..."), 50)
		checkSail(t, gateTrip(".w."), 50, 50, 200)
		checkFirst(t, gateTrip("..."), 50, 180, 200)
		checkFirst(t, gateTrip("..."), 2831)
	}
}
