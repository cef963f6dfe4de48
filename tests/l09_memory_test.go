package tests

import (
	"slices"
	"testing"

	"loop.example/g00831/impl"
)

// callRules calls every function that takes a chart or lists of passages.
func callRules(c impl.Chart, r impl.Regime, a []impl.Passage, b []impl.Passage) {
	impl.FirstConflict(c, r, a)
	impl.IsClear(c, r, a)
	impl.Clashes(c, r, a, b)
	for _, p := range a {
		for _, q := range b {
			impl.ConflictOf(c, r, p, q)
		}
	}
}

// checkRulesTouchNothing calls all functions with arguments that have room behind them.
func checkRulesTouchNothing(t *testing.T, good impl.Chart, r impl.Regime) {
	t.Helper()
	for _, list := range listsToRefuse() {
		c, whole := chartWithRoom(good)
		_, before := chartWithRoom(good)
		a, wholeA := roomBehind(list, passageOf(0, 0, 5, 35), impl.Passage{})
		b, wholeB := roomBehind(convoy(3), passageOf(9, 0, 5, 35), backward(passageOf(0, 1, 0, 2880)))
		beforeA, beforeB := slices.Clone(wholeA), slices.Clone(wholeB)
		callRules(c, r, a, b)
		if !sameCharts(whole, before) {
			t.Errorf("the chart or the room behind it became %v, from %v", whole, before)
		}
		if !slices.Equal(wholeA, beforeA) || !slices.Equal(wholeB, beforeB) {
			t.Errorf("the passages or the room behind them became %+v and %+v, from %+v and %+v", wholeA, wholeB, beforeA, beforeB)
		}
	}
}

func TestRuleArgumentsAreUnchanged(t *testing.T) {
	for _, c := range append(goodCharts(), badCharts()...) {
		checkRulesTouchNothing(t, c, regime(10))
		checkRulesTouchNothing(t, c, fog(61))
	}
	for _, r := range append(badRegimes(), manyRegimes(0, 1, 60)...) {
		checkRulesTouchNothing(t, crossing(), r)
	}
}

// What lies behind a list is no element of it, even where its memory can be reached.
func TestRulesWithoutTheRoomBehind(t *testing.T) {
	for _, rival := range rivals(passageOf(1, 0, 100, 130)) {
		list, whole := roomBehind(convoy(3), rival)
		checkNoConflict(t, crossing(), regime(10), list)
		checkClashes(t, crossing(), regime(10), list, chainOf(passageOf(70, 0, 700, 730)), false)
		later, _ := roomBehind(laterConvoy(2), rival)
		checkClashes(t, crossing(), regime(10), list, later, false)
		if impl.IsClear(crossing(), regime(10), whole) {
			t.Errorf("IsClear of %+v is true", whole)
		}
	}
	c, _ := chartWithRoom(crossing())
	for number := 2; number < 4; number++ {
		for _, pair := range encounters(number) {
			checkConflict(t, c, fog(10), pair[0], pair[1], impl.CfNone)
		}
	}
}

func TestConflictsStayTheSame(t *testing.T) {
	list := convoy(6)
	list[4] = backward(passageOf(99, 0, 120, 210))
	for range 100 {
		checkFirstConflict(t, crossing(), regime(10), list, 1, 4, impl.CfMeet)
		checkNoConflict(t, crossing(), regime(10), list[:4])
		checkNoRules(t, crossing(), regime(61), list)
		checkConflict(t, crossing(), regime(10), list[0], passageOf(8, 0, 5, 50), impl.CfGap)
		checkClashes(t, crossing(), regime(10), list[:2], list[4:], true)
		checkClashes(t, crossing(), regime(10), list[:1], list[4:], false)
	}
}
