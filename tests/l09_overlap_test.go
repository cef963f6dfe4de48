package tests

import (
	"math"
	"testing"

	"loop.example/g00831/impl"
)

func turned(p impl.Passage) impl.Passage {
	p.Toward = !p.Toward
	return p
}

// checkOverlaps asks in both orders, and for another ship, segment and direction, which make no difference.
func checkOverlaps(t *testing.T, p impl.Passage, q impl.Passage, want bool) {
	t.Helper()
	other := turned(q)
	other.Ship, other.Segment = other.Ship+1, other.Segment-1
	for _, pair := range [][2]impl.Passage{{p, q}, {q, p}, {p, other}, {other, p}} {
		if got := impl.Overlaps(pair[0], pair[1]); got != want {
			t.Errorf("Overlaps(%+v, %+v) is %v", pair[0], pair[1], got)
		}
	}
}

func timed(start int, end int) impl.Passage { return passageOf(0, 0, start, end) }

func TestOverlaps(t *testing.T) {
	for _, w := range []struct {
		p, q impl.Passage
		want bool
	}{
		{timed(100, 130), timed(130, 160), false}, {timed(100, 129), timed(130, 160), false}, {timed(100, 131), timed(130, 160), true},
		{timed(100, 200), timed(130, 160), true}, {timed(100, 200), timed(100, 160), true}, {timed(100, 200), timed(130, 200), true}, {timed(100, 200), timed(100, 200), true},
		{timed(100, 130), timed(500, 530), false}, {timed(0, 1), timed(0, 1), true}, {timed(0, 1), timed(1, 2), false},
		{timed(100, 200), timed(150, 150), false}, {timed(100, 200), timed(100, 100), false}, {timed(100, 200), timed(200, 200), false}, {timed(150, 150), timed(150, 150), false},
		{timed(100, 200), timed(160, 150), false}, {timed(100, 200), timed(500, 50), false}, {timed(200, 100), timed(200, 100), false}, {timed(200, 100), timed(160, 140), false},
		{timed(100, 200), timed(150, 151), true}, {timed(-30, 1), timed(0, 30), true}, {timed(-30, -10), timed(-20, 0), true}, {timed(2870, 2890), timed(2889, 3000), true},
		{impl.Passage{}, impl.Passage{}, false}, {impl.Passage{}, timed(-5, 5), false},
	} {
		checkOverlaps(t, w.p, w.q, w.want)
	}
}

// slowOverlaps looks for a minute at which both passages are under way.
func slowOverlaps(p impl.Passage, q impl.Passage) bool {
	for minute := -20; minute <= 20; minute++ {
		if p.Start <= minute && minute < p.End && q.Start <= minute && minute < q.End {
			return true
		}
	}
	return false
}

func TestOverlapsOfEveryTwoTimes(t *testing.T) {
	for _, ends := range beginsOf([]int{-2, -1, 0, 1, 2, 3, 7, 8, 9}, 4) {
		p, q := timed(ends[0], ends[1]), timed(ends[2], ends[3])
		checkOverlaps(t, p, q, slowOverlaps(p, q))
	}
}

func TestOverlapsAtTheEndsOfInt(t *testing.T) {
	always := timed(math.MinInt, math.MaxInt)
	checkOverlaps(t, always, always, true)
	checkOverlaps(t, always, timed(0, 1), true)
	checkOverlaps(t, always, timed(0, 0), false)
	checkOverlaps(t, always, timed(math.MinInt, math.MinInt+1), true)
	checkOverlaps(t, always, timed(math.MaxInt-1, math.MaxInt), true)
	checkOverlaps(t, always, timed(math.MaxInt, math.MaxInt), false)
	checkOverlaps(t, always, timed(math.MaxInt, math.MinInt), false)
	checkOverlaps(t, timed(math.MinInt, 0), timed(0, math.MaxInt), false)
	checkOverlaps(t, timed(math.MinInt, 0), timed(-1, math.MaxInt), true)
	checkOverlaps(t, timed(math.MinInt, math.MinInt+1), timed(math.MaxInt-1, math.MaxInt), false)
	checkOverlaps(t, timed(math.MaxInt, math.MinInt), timed(math.MaxInt, math.MinInt), false)
	checkOverlaps(t, timed(math.MaxInt, math.MinInt), timed(5, 10), false)
}
