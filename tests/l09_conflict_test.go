package tests

import (
	"math"
	"testing"

	"loop.example/g00831/impl"
)

// checkConflict asks in both orders, and with both passages turned around, which make no difference.
func checkConflict(t *testing.T, c impl.Chart, r impl.Regime, p impl.Passage, q impl.Passage, want int) {
	t.Helper()
	for _, pair := range [][2]impl.Passage{{p, q}, {q, p}, {turned(p), turned(q)}, {turned(q), turned(p)}} {
		if got := impl.ConflictOf(c, r, pair[0], pair[1]); got != want {
			t.Errorf("ConflictOf(%v, %+v, %+v, %+v) is %d, want %d", c, r, pair[0], pair[1], got, want)
		}
	}
}

// crossing has a segment on which ships may not meet, and one on which they may.
func crossing() impl.Chart {
	return chartOf(somePoints(3), segment(0, 1, 30), impl.Segment{A: 2, B: 1, Depth: 800, Minutes: 30, Meet: true})
}

// manyRegimes gives each gap with NoMeet and without.
func manyRegimes(gaps ...int) []impl.Regime {
	var list []impl.Regime
	for _, gap := range gaps {
		list = append(list, regime(gap), fog(gap))
	}
	return list
}

func TestConflictOfOneShip(t *testing.T) {
	c := crossing()
	for _, r := range manyRegimes(0, 10, 60) {
		for number := range 2 {
			for _, ship := range []int{math.MinInt, -1, 0, 5, 6, math.MaxInt} {
				p := passageOf(ship, number, 100, 130)
				for _, w := range []struct {
					start, end, want int
				}{
					{100, 130, impl.CfSame}, {110, 140, impl.CfSame}, {129, 159, impl.CfSame}, {90, 150, impl.CfSame}, {110, 115, impl.CfSame}, {71, 101, impl.CfSame},
					{130, 160, impl.CfNone}, {131, 161, impl.CfNone}, {70, 100, impl.CfNone}, {500, 530, impl.CfNone}, {110, 110, impl.CfNone}, {100, 100, impl.CfNone}, {130, 100, impl.CfNone}, {130, 130, impl.CfNone},
				} {
					q := passageOf(ship, number, w.start, w.end)
					checkConflict(t, c, r, p, q, w.want)
					checkConflict(t, c, r, p, turned(q), w.want)
				}
			}
		}
	}
}

// Only ships that may meet nowhere, or not on this segment, have to wait for each other.
func TestConflictOfMeetings(t *testing.T) {
	c := crossing()
	for _, gap := range []int{0, 10, 60} {
		for _, w := range []struct {
			start, end int
			overlap    bool
		}{
			{100, 130, true}, {129, 159, true}, {130, 160, false}, {131, 161, false}, {71, 101, true}, {70, 100, false}, {69, 99, false}, {90, 150, true}, {110, 120, true}, {110, 110, false}, {120, 110, false}, {100, 500, true}, {500, 530, false},
		} {
			p, q := passageOf(0, 0, 100, 130), backward(passageOf(1, 0, w.start, w.end))
			forbidden := map[bool]int{true: impl.CfMeet, false: impl.CfNone}[w.overlap]
			checkConflict(t, c, regime(gap), p, q, forbidden)
			checkConflict(t, c, fog(gap), p, q, forbidden)
			p.Segment, q.Segment = 1, 1
			checkConflict(t, c, regime(gap), p, q, impl.CfNone)
			checkConflict(t, c, fog(gap), p, q, forbidden)
		}
	}
}

// The time between the passages makes no difference for Meet, and NoMeet none for ships that follow each other.
func checkFollowing(t *testing.T, gap int, p impl.Passage, q impl.Passage, want int) {
	t.Helper()
	for number := range 2 {
		p.Segment, q.Segment = number, number
		checkConflict(t, crossing(), regime(gap), p, q, want)
		checkConflict(t, crossing(), fog(gap), p, q, want)
	}
}

func TestConflictOfGaps(t *testing.T) {
	for _, gap := range []int{1, 2, 10, 59, 60} {
		for _, w := range []struct {
			more, want int
		}{{-1, impl.CfGap}, {0, impl.CfNone}, {1, impl.CfNone}} {
			n := gap + w.more
			checkFollowing(t, gap, passageOf(0, 0, 100, 130), passageOf(1, 0, 100+n, 400), w.want)
			checkFollowing(t, gap, passageOf(0, 0, 100, 430), passageOf(1, 0, 300, 430+n), w.want)
			checkFollowing(t, gap, passageOf(0, 0, 100, 130), passageOf(1, 0, 100+n, 130+n), w.want)
			checkFollowing(t, gap, passageOf(0, 0, 100, 130+n), passageOf(1, 0, 100+gap, 130), map[bool]int{true: impl.CfGap, false: impl.CfPass}[n < gap])
			checkFollowing(t, gap, passageOf(0, 0, 100, 100), passageOf(1, 0, 100+n, 100+n), w.want)
		}
		checkFollowing(t, gap, passageOf(0, 0, 100, 130), passageOf(1, 0, 100, 130), impl.CfGap)
		checkFollowing(t, gap, passageOf(0, 0, 100, 130), passageOf(1, 0, 100, 500), impl.CfGap)
		checkFollowing(t, gap, passageOf(0, 0, 100, 500), passageOf(1, 0, 300, 500), impl.CfGap)
		checkFollowing(t, gap, passageOf(0, 0, 100, 130), passageOf(1, 0, 1000, 1030), impl.CfNone)
		checkFollowing(t, gap, passageOf(0, 0, 100, 500), passageOf(1, 0, 200, 600), impl.CfNone)
	}
}

// With a gap of 0 ships may begin or end at one minute, and none of them is then first or last.
func TestConflictOfNoGap(t *testing.T) {
	p := passageOf(0, 0, 100, 130)
	for _, w := range []struct {
		start, end, want int
	}{
		{100, 130, impl.CfNone}, {100, 129, impl.CfNone}, {100, 131, impl.CfNone}, {99, 130, impl.CfNone}, {101, 130, impl.CfNone},
		{101, 131, impl.CfNone}, {99, 129, impl.CfNone}, {101, 129, impl.CfPass}, {99, 131, impl.CfPass}, {130, 160, impl.CfNone}, {0, 2880, impl.CfPass},
		{131, 100, impl.CfPass}, {100, 100, impl.CfNone}, {101, 101, impl.CfPass}, {99, 99, impl.CfNone}, {140, 140, impl.CfNone},
	} {
		checkFollowing(t, 0, p, passageOf(1, 0, w.start, w.end), w.want)
	}
}

func TestConflictOfPassing(t *testing.T) {
	for _, w := range []struct {
		gap, start, end, want int
	}{
		{10, 110, 120, impl.CfPass}, {10, 90, 140, impl.CfPass}, {10, 0, 2880, impl.CfPass}, {10, 109, 120, impl.CfGap}, {10, 110, 121, impl.CfGap}, {10, 91, 140, impl.CfGap}, {10, 90, 139, impl.CfGap},
		{10, 110, 140, impl.CfNone}, {10, 90, 120, impl.CfNone}, {1, 101, 129, impl.CfPass}, {1, 100, 129, impl.CfGap}, {1, 101, 130, impl.CfGap},
		{60, 40, 190, impl.CfPass}, {60, 41, 190, impl.CfGap}, {60, 40, 189, impl.CfGap}, {60, 160, 70, impl.CfPass}, {60, 160, 190, impl.CfNone},
	} {
		checkFollowing(t, w.gap, passageOf(0, 0, 100, 130), passageOf(1, 0, w.start, w.end), w.want)
	}
}

// In each case the codes behind the first one would do as well, if the first one did not count.
func TestConflictOfSeveralCodes(t *testing.T) {
	c := crossing()
	checkConflict(t, c, fog(10), passageOf(3, 0, 100, 130), passageOf(3, 0, 105, 125), impl.CfSame)
	checkConflict(t, c, fog(10), passageOf(3, 0, 100, 130), passageOf(3, 0, 110, 120), impl.CfSame)
	checkConflict(t, c, fog(10), passageOf(3, 0, 100, 130), backward(passageOf(3, 0, 105, 125)), impl.CfSame)
	checkConflict(t, c, fog(10), passageOf(3, 0, 100, 109), passageOf(3, 0, 109, 118), impl.CfNone)
	checkConflict(t, c, fog(10), passageOf(3, 0, 100, 130), passageOf(3, 0, 115, 114), impl.CfNone)
	checkConflict(t, c, fog(10), passageOf(3, 0, 100, 130), passageOf(2, 1, 100, 130), impl.CfNone)
	checkConflict(t, c, fog(10), passageOf(3, 0, 100, 130), passageOf(3, 1, 100, 130), impl.CfNone)
	checkConflict(t, c, fog(10), passageOf(3, 0, 100, 130), backward(passageOf(2, 0, 105, 125)), impl.CfMeet)
	checkConflict(t, c, fog(10), passageOf(3, 0, 100, 130), backward(passageOf(2, 0, 130, 135)), impl.CfNone)
	checkConflict(t, c, regime(10), passageOf(3, 1, 100, 130), backward(passageOf(2, 1, 110, 120)), impl.CfNone)
	checkConflict(t, c, fog(10), passageOf(3, 0, 100, 130), passageOf(2, 0, 105, 120), impl.CfGap)
	checkConflict(t, c, fog(10), passageOf(3, 0, 100, 130), passageOf(2, 0, 110, 120), impl.CfPass)
}

// Neither passage need be one of a ship of a fleet, or take the time of a segment.
func TestConflictOfAnyShips(t *testing.T) {
	ships := []int{math.MinInt, math.MinInt + 1, -1, 0, 1, 6, math.MaxInt - 1, math.MaxInt}
	for _, a := range ships {
		for _, b := range ships {
			p, q := passageOf(a, 0, 100, 130), passageOf(b, 0, 105, 135)
			if a == b {
				checkConflict(t, crossing(), regime(10), p, q, impl.CfSame)
				continue
			}
			checkConflict(t, crossing(), regime(10), p, q, impl.CfGap)
			checkConflict(t, crossing(), regime(10), p, backward(q), impl.CfMeet)
		}
	}
}

// encounters gives pairs of passages of a segment with all conflicts.
func encounters(number int) [][2]impl.Passage {
	p := passageOf(0, number, 100, 130)
	return [][2]impl.Passage{
		{p, p}, {p, passageOf(0, number, 110, 140)}, {p, backward(passageOf(1, number, 100, 130))}, {p, passageOf(1, number, 100, 130)}, {p, passageOf(1, number, 105, 135)}, {p, passageOf(1, number, 0, 2880)},
	}
}

func TestConflictOfSegments(t *testing.T) {
	for _, c := range goodCharts() {
		for _, number := range numbersAround(len(c.Segments)) {
			for _, pair := range encounters(number) {
				if within(number, 0, len(c.Segments)-1) {
					if impl.ConflictOf(c, fog(10), pair[0], pair[1]) == impl.CfNone {
						t.Errorf("no conflict between %+v and %+v", pair[0], pair[1])
					}
					checkApart(t, c, pair[0], pair[1])
					continue
				}
				checkConflict(t, c, fog(10), pair[0], pair[1], impl.CfNone)
			}
		}
	}
}

// checkApart moves each passage by itself to every other segment, existing or not.
func checkApart(t *testing.T, c impl.Chart, p impl.Passage, q impl.Passage) {
	t.Helper()
	for _, number := range numbersAround(len(c.Segments)) {
		if number != p.Segment {
			moved := p
			moved.Segment = number
			checkConflict(t, c, fog(10), moved, q, impl.CfNone)
			moved = q
			moved.Segment = number
			checkConflict(t, c, fog(10), p, moved, impl.CfNone)
		}
	}
}

func TestConflictOfRefuses(t *testing.T) {
	for _, c := range badCharts() {
		for number := range c.Segments[:min(len(c.Segments), 11)] {
			for _, pair := range encounters(number) {
				checkConflict(t, c, fog(10), pair[0], pair[1], impl.CfNone)
			}
		}
	}
	for _, r := range badRegimes() {
		for number := range 2 {
			for _, pair := range encounters(number) {
				checkConflict(t, crossing(), r, pair[0], pair[1], impl.CfNone)
			}
		}
	}
	checkConflict(t, impl.Chart{}, impl.Regime{}, impl.Passage{}, impl.Passage{}, impl.CfNone)
}
