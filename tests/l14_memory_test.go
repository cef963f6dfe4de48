package tests

import (
	"slices"
	"testing"

	"loop.example/g00831/impl"
)

// passagesToKeep gives passages that need no tug, several and too many, and one that is not valid.
func passagesToKeep() [][]impl.Passage {
	return [][]impl.Passage{nil, tugTrips([]int{0, 5}), tugTrips([]int{1}), tugTrips([]int{4, 4, 4}), tugTrips([]int{1, 4, 0, 2, 3, 1}), tugTrips([]int{4, 4, 4, 4}), voyage(2, 100, 0, 1, 2, 3), append(voyage(1, 5, 2, 3), impl.Passage{})}
}

func checkKeptDuties(t *testing.T, got []impl.Duty, want []impl.Duty, what string) {
	t.Helper()
	if !slices.Equal(got, want) {
		t.Errorf("%s: %+v, want %+v", what, got, want)
	}
}

func TestTugDutiesAreNew(t *testing.T) {
	for _, kept := range passagesToKeep() {
		c, fleet, list := copyOfChart(fullChart()), someShips(6), slices.Clone(kept)
		first := impl.TugDuties(c, fleet, list)
		before := slices.Clone(first)
		later := impl.TugDuties(c, fleet, list)
		checkKeptDuties(t, later, before, "the same call again")
		spoilDuties(later)
		checkKeptDuties(t, first, before, "after a change of a later result")
		checkKeptDuties(t, impl.TugDuties(c, fleet, list), before, "the same call after a change of its result")
		if !slices.Equal(list, kept) || !slices.Equal(fleet, someShips(6)) || !sameCharts(c, fullChart()) {
			t.Errorf("the arguments are %+v, %+v and %+v after a change of a result", c, fleet, list)
		}
		spoilPassages(list)
		clear(fleet)
		clear(c.Points)
		clear(c.Segments)
		checkKeptDuties(t, first, before, "after a change of the arguments")
	}
}

// crewResults calls every function of the chapter, and gives what it returns for numbers.
func crewResults(w impl.Crew, c impl.Chart, fleet []impl.Ship, chains [][]impl.Passage) []int {
	numbers := []int{impl.PilotsNeeded(w, c, fleet, chains)}
	if impl.CrewOk(w) && impl.CrewSuffices(w, c, fleet, chains) {
		numbers = append(numbers, -7)
	}
	for _, list := range chains {
		d, _ := impl.PilotDuty(c, fleet, list)
		numbers = append(numbers, d.From, d.To, d.A, d.B, impl.TugsNeeded(w, c, fleet, list), len(impl.TugDuties(c, fleet, list)))
	}
	return numbers
}

// chainsWithRoom gives chains with something of their own behind each one and behind the list, and the whole of them.
func chainsWithRoom(chains [][]impl.Passage) ([][]impl.Passage, [][]impl.Passage) {
	var lists, wholes [][]impl.Passage
	for _, chain := range chains {
		list, whole := roomBehind(chain, sailing(4, 2, 0), impl.Passage{}, passageOf(1, 2, 3, 4))
		lists, wholes = append(lists, list), append(wholes, whole)
	}
	behind := voyage(3, 200, 2, 3)
	lists, _ = roomBehind(lists, behind, chainOf(impl.Passage{}))
	return lists, append(wholes, behind)
}

// checkCrewTouchesNothing calls all functions with arguments that have room behind them, which is no part of the lists.
func checkCrewTouchesNothing(t *testing.T, kept impl.Crew, chart impl.Chart, ships []impl.Ship, lists [][]impl.Passage) {
	t.Helper()
	w := kept
	moves, wholeMoves := roomBehind(kept.Moves, 0, 240, -1)
	w.Moves = moves
	c, wholeChart := chartWithRoom(chart)
	fleet, wholeFleet := roomBehind(ships, shipOf("other", 99, 999, 0, 4), impl.Ship{})
	chains, wholes := chainsWithRoom(lists)
	_, wholeChains := roomBehind(chains[:cap(chains)])
	_, chartBefore := chartWithRoom(chart)
	_, wholesBefore := chainsWithRoom(lists)
	movesBefore, fleetBefore := slices.Clone(wholeMoves), slices.Clone(wholeFleet)
	got := crewResults(w, c, fleet, chains)
	if want := crewResults(kept, chart, ships, lists); !slices.Equal(got, want) {
		t.Errorf("with room behind the arguments: %v, want %v", got, want)
	}
	if !slices.Equal(wholeMoves, movesBefore) || !slices.Equal(wholeFleet, fleetBefore) || !sameCharts(wholeChart, chartBefore) {
		t.Errorf("the moves, the fleet, the chart or the room behind them became %v, %+v and %+v", wholeMoves, wholeFleet, wholeChart)
	}
	for i, whole := range wholes {
		if !slices.Equal(whole, wholesBefore[i]) {
			t.Errorf("a chain with the room behind it became %+v, from %+v", whole, wholesBefore[i])
		}
	}
	if !slices.EqualFunc(chains[:cap(chains)], wholeChains, slices.Equal[[]impl.Passage]) {
		t.Errorf("the chains with the room behind them became %+v, from %+v", chains[:cap(chains)], wholeChains)
	}
}

func TestCrewArgumentsAreUnchanged(t *testing.T) {
	lists := [][][]impl.Passage{nil, {nil}, passagesToKeep(), chainsInTurn(3), chainsAtOnce(12), chainsAtOnce(13), amongEmpty(2, chainsInTurn(12))}
	for seed := range 20 {
		lists = append(lists, crowdedChains(seed, 6), chainsOf(crowdedPassages(seed, 5)))
	}
	for _, chains := range lists {
		for _, w := range append(goodCrews(), badCrews()[:8]...) {
			checkCrewTouchesNothing(t, w, fullChart(), someShips(6), chains)
		}
		checkCrewTouchesNothing(t, wholeCrew(), fullChart(), someShips(7), chains)
		checkCrewTouchesNothing(t, wholeCrew(), fullChart(), nil, chains)
		checkCrewTouchesNothing(t, wholeCrew(), channel(800, 20), someShips(6), chains)
		checkCrewTouchesNothing(t, wholeCrew(), impl.Chart{}, someShips(6), chains)
	}
}

// What lies behind a list is no element of it, even where its memory can be reached.
func TestCrewWithoutTheRoomBehind(t *testing.T) {
	whole := voyage(4, 100, 2, 3, 4, 5, 0)
	four := dutyOf(100, 120, 2, 3)
	checkTugDuties(t, whole[:1], four, four, four, four)
	checkTugDuties(t, whole)
	checkPilotDuty(t, whole[:1], four)
	checkNoPilotDuty(t, whole[:0])
	checkTugsNeeded(t, wholeCrew(), whole[:3], 4)
	checkTugsNeeded(t, wholeCrew(), whole, -1)
	chains := chainsAtOnce(13)
	checkPilotsNeeded(t, wholeCrew(), chains[:12], 12)
	checkPilotsNeeded(t, wholeCrew(), chains, -1)
	checkEnough(t, wholeCrew(), chainsOf(whole[:3], whole)[:1], true)
	checkEnough(t, wholeCrew(), chainsOf(whole[:3], whole), false)
	checkCrewOk(t, crewOf(1, 1, 1, append(impl.StayingMoves(), 0)[:64]), true)
}

func TestCrewResultsStayTheSame(t *testing.T) {
	w := crewOf(5, 2, 20, crookedMoves())
	want := crewResults(w, fullChart(), someShips(6), crowdedChains(9, 6))
	for range 100 {
		if got := crewResults(w, fullChart(), someShips(6), crowdedChains(9, 6)); !slices.Equal(got, want) {
			t.Errorf("the same calls give %v, want %v", got, want)
		}
	}
}
