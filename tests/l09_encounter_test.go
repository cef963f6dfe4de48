package tests

import (
	"math"
	"math/big"
	"testing"

	"loop.example/g00831/impl"
)

// slowConflict reads the document line by line for two passages of a segment, with differences of any size.
func slowConflict(meet bool, r impl.Regime, p impl.Passage, q impl.Passage) int {
	underWay := func(x impl.Passage, minute int) bool { return x.Start <= minute && minute < x.End }
	overlap := underWay(p, p.Start) && underWay(q, p.Start) || underWay(p, q.Start) && underWay(q, q.Start)
	near := func(a int, b int) bool {
		difference := new(big.Int).Sub(big.NewInt(int64(a)), big.NewInt(int64(b)))
		return difference.CmpAbs(big.NewInt(int64(r.Gap))) < 0
	}
	if p.Ship == q.Ship {
		return map[bool]int{true: impl.CfSame, false: impl.CfNone}[overlap]
	}
	if p.Toward != q.Toward {
		return map[bool]int{true: impl.CfMeet, false: impl.CfNone}[overlap && (!meet || r.NoMeet)]
	}
	if near(p.Start, q.Start) || near(p.End, q.End) {
		return impl.CfGap
	}
	if p.Start < q.Start && p.End > q.End || q.Start < p.Start && q.End > p.End {
		return impl.CfPass
	}
	return impl.CfNone
}

// waysToSail gives two passages as they are, in different directions, and as those of one ship.
func waysToSail(p impl.Passage, q impl.Passage) [][2]impl.Passage {
	p.Ship, q.Ship = 0, 1
	list := [][2]impl.Passage{{p, q}, {p, turned(q)}}
	q.Ship = 0
	return append(list, [2]impl.Passage{p, q}, [2]impl.Passage{p, turned(q)})
}

func checkEveryEncounter(t *testing.T, times []int, regimes []impl.Regime) {
	t.Helper()
	c := crossing()
	found := map[int]int{}
	for _, n := range beginsOf(times, 4) {
		for number, s := range c.Segments {
			for _, pair := range waysToSail(passageOf(0, number, n[0], n[1]), passageOf(0, number, n[2], n[3])) {
				for _, r := range regimes {
					want := slowConflict(s.Meet, r, pair[0], pair[1])
					checkConflict(t, c, r, pair[0], pair[1], want)
					found[want]++
				}
			}
		}
	}
	for code := range 5 {
		if found[code] == 0 {
			t.Errorf("no two passages have the conflict %d", code)
		}
	}
}

func TestConflictOfEveryTwoPassages(t *testing.T) {
	checkEveryEncounter(t, []int{0, 1, 10, 11, 21}, manyRegimes(0, 1, 10, 11))
	checkEveryEncounter(t, []int{-30, 0, 29, 30, 31, 90}, manyRegimes(30, 60))
}

// The differences are up to twice as great as the greatest int.
func TestConflictOfPassagesAtTheEndsOfInt(t *testing.T) {
	checkEveryEncounter(t, []int{math.MinInt, math.MinInt + 1, math.MinInt + 60, -1, 0, math.MaxInt - 60, math.MaxInt - 59, math.MaxInt}, []impl.Regime{regime(0), fog(1), regime(60), fog(60)})
}

func TestConflictOfGreatDifferences(t *testing.T) {
	least, greatest := math.MinInt, math.MaxInt
	for gap := range 61 {
		checkFollowing(t, gap, passageOf(0, 0, least, 0), passageOf(1, 0, greatest, 1000), impl.CfNone)
		checkFollowing(t, gap, passageOf(0, 0, least, greatest), passageOf(1, 0, greatest, least), impl.CfPass)
		checkFollowing(t, gap, passageOf(0, 0, least, 1000), passageOf(1, 0, greatest, 0), impl.CfPass)
		checkFollowing(t, gap, passageOf(0, 0, 0, least), passageOf(1, 0, 1000, greatest), impl.CfNone)
		checkFollowing(t, gap, passageOf(0, 0, 0, greatest), passageOf(1, 0, 1000, least), impl.CfPass)
		checkFollowing(t, gap, passageOf(0, 0, least, 0), passageOf(1, 0, least+gap, 1000), impl.CfNone)
		checkFollowing(t, gap, passageOf(0, 0, 0, greatest-gap), passageOf(1, 0, 1000, greatest), impl.CfNone)
	}
	for gap := 1; gap <= 60; gap++ {
		checkFollowing(t, gap, passageOf(0, 0, least, 0), passageOf(1, 0, least+gap-1, 1000), impl.CfGap)
		checkFollowing(t, gap, passageOf(0, 0, 0, greatest-gap+1), passageOf(1, 0, 1000, greatest), impl.CfGap)
	}
}

// A stricter regime has at least the same conflicts, and one that is not stricter lacks some.
func TestStricterRegimesHaveTheSameConflicts(t *testing.T) {
	regimes := manyRegimes(0, 1, 2, 9, 10, 11, 60)
	conflicts := make([]map[string]bool, len(regimes))
	for i := range regimes {
		conflicts[i] = map[string]bool{}
	}
	c := crossing()
	for at, n := range beginsOf([]int{0, 1, 2, 10, 11, 40}, 4) {
		for number := range c.Segments {
			for way, pair := range waysToSail(passageOf(0, number, n[0], 100+n[1]), passageOf(0, number, n[2], 100+n[3])) {
				for i, r := range regimes {
					if impl.ConflictOf(c, r, pair[0], pair[1]) != impl.CfNone {
						conflicts[i][impl.FormatInt(at)+"/"+impl.FormatInt(number)+"/"+impl.FormatInt(way)] = true
					}
				}
			}
		}
	}
	for i, a := range regimes {
		for k, b := range regimes {
			checkStricter(t, a, b, hasAll(conflicts[i], conflicts[k]))
		}
	}
}

func hasAll(set map[string]bool, part map[string]bool) bool {
	for x := range part {
		if !set[x] {
			return false
		}
	}
	return true
}
