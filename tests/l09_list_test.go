package tests

import (
	"slices"
	"testing"

	"loop.example/g00831/impl"
)

// checkFirstConflict also asks whether the list is clear, which it is without a conflict.
func checkFirstConflict(t *testing.T, c impl.Chart, r impl.Regime, list []impl.Passage, i int, k int, code int) {
	t.Helper()
	gotI, gotK, gotCode := impl.FirstConflict(c, r, list)
	if gotI != i || gotK != k || gotCode != code {
		t.Errorf("FirstConflict(%v, %+v, %+v) is %d, %d, %d, want %d, %d, %d", c, r, list, gotI, gotK, gotCode, i, k, code)
	}
	if got := impl.IsClear(c, r, list); got != (code == impl.CfNone) {
		t.Errorf("IsClear(%v, %+v, %+v) is %v", c, r, list, got)
	}
}

func checkNoConflict(t *testing.T, c impl.Chart, r impl.Regime, list []impl.Passage) {
	t.Helper()
	checkFirstConflict(t, c, r, list, -1, -1, impl.CfNone)
}

// checkNoRules wants a list without conflicts that is not clear either.
func checkNoRules(t *testing.T, c impl.Chart, r impl.Regime, list []impl.Passage) {
	t.Helper()
	i, k, code := impl.FirstConflict(c, r, list)
	if i != -1 || k != -1 || code != impl.CfNone {
		t.Errorf("FirstConflict(%v, %+v, %+v) is %d, %d, %d", c, r, list, i, k, code)
	}
	if impl.IsClear(c, r, list) {
		t.Errorf("IsClear(%v, %+v, %+v) is true", c, r, list)
	}
}

// convoy gives n passages of different ships, one far behind the other.
func convoy(n int) []impl.Passage {
	var list []impl.Passage
	for i := range n {
		list = append(list, passageOf(i, 0, 100*i, 100*i+30))
	}
	return list
}

func TestFirstConflictOfNone(t *testing.T) {
	for _, c := range goodCharts() {
		checkNoConflict(t, c, fog(60), nil)
		checkNoConflict(t, c, fog(60), chainOf())
		for _, number := range numbersAround(len(c.Segments)) {
			for _, p := range chainOf(passageOf(0, number, 0, 30), passageOf(0, number, 30, 0), backward(passageOf(7, number, 0, 5000))) {
				checkNoConflict(t, c, fog(60), chainOf(p))
			}
		}
	}
	for n := range 40 {
		checkNoConflict(t, crossing(), fog(60), convoy(n))
	}
}

// rivals gives a passage for each kind of conflict with p, and with no passage that is far from it.
func rivals(p impl.Passage) map[int]impl.Passage {
	return map[int]impl.Passage{
		impl.CfSame: passageOf(p.Ship, p.Segment, p.Start+5, p.End+5),
		impl.CfMeet: backward(passageOf(99, p.Segment, p.Start+5, p.End+5)),
		impl.CfGap:  passageOf(99, p.Segment, p.Start+5, p.End+5),
		impl.CfPass: passageOf(99, p.Segment, p.Start-20, p.End+20),
	}
}

func TestFirstConflictOfOnePair(t *testing.T) {
	for n := 2; n <= 7; n++ {
		for k := range n {
			for i := range k {
				for code, rival := range rivals(convoy(n)[i]) {
					list := convoy(n)
					list[k] = rival
					checkFirstConflict(t, crossing(), regime(10), list, i, k, code)
				}
			}
		}
	}
	list := convoy(300)
	list[299] = backward(passageOf(500, 0, 29800, 29801))
	checkFirstConflict(t, crossing(), regime(10), list, 298, 299, impl.CfMeet)
}

// Neither the lesser code nor the time at which the ships meet puts a conflict before another.
func TestFirstConflictOfOneSecondPassage(t *testing.T) {
	c, r := crossing(), regime(10)
	a, b := passageOf(0, 0, 100, 130), passageOf(1, 0, 200, 230)
	long := backward(passageOf(1, 0, 100, 230))
	checkFirstConflict(t, c, r, chainOf(a, b, long), 0, 2, impl.CfMeet)
	checkFirstConflict(t, c, r, chainOf(b, a, long), 0, 2, impl.CfSame)
	checkFirstConflict(t, c, r, chainOf(long, a, b), 0, 1, impl.CfMeet)
	checkFirstConflict(t, c, r, chainOf(long, b, a), 0, 1, impl.CfSame)
	checkFirstConflict(t, c, r, chainOf(passageOf(7, 0, 500, 530), a, b, long), 1, 3, impl.CfMeet)
	over := passageOf(9, 0, 0, 235)
	checkFirstConflict(t, c, r, chainOf(a, b, over), 0, 2, impl.CfPass)
	checkFirstConflict(t, c, r, chainOf(b, a, over), 0, 2, impl.CfGap)
	list := convoy(6)
	list[5] = backward(passageOf(99, 0, 120, 310))
	checkFirstConflict(t, c, r, list, 1, 5, impl.CfMeet)
}

// The pair whose second passage comes first counts, however late its first one comes.
func TestFirstConflictOfTwoSecondPassages(t *testing.T) {
	for _, w := range []struct{ i, k, j, m int }{{2, 3, 0, 4}, {1, 2, 0, 3}, {0, 2, 1, 3}, {3, 4, 0, 5}, {0, 1, 2, 3}, {0, 4, 0, 5}, {1, 3, 1, 4}} {
		for code, rival := range rivals(convoy(6)[w.i]) {
			for _, later := range rivals(convoy(6)[w.j]) {
				list := convoy(6)
				list[w.k] = rival
				list[w.m] = later
				if list[w.m].Ship == 99 {
					list[w.m].Ship = 98
				}
				checkFirstConflict(t, crossing(), regime(10), list, w.i, w.k, code)
			}
		}
	}
}

// slowFirst sorts all conflicts.
func slowFirst(c impl.Chart, r impl.Regime, list []impl.Passage) []int {
	found := [][]int{{len(list), -1, -1, impl.CfNone}}
	for i := range list {
		for k := i + 1; k < len(list); k++ {
			p, q := list[i], list[k]
			if p.Segment != q.Segment || !within(p.Segment, 0, len(c.Segments)-1) {
				continue
			}
			if code := slowConflict(c.Segments[p.Segment].Meet, r, p, q); code != impl.CfNone {
				found = append(found, []int{k, i, k, code})
			}
		}
	}
	slices.SortFunc(found, slices.Compare)
	return found[0][1:]
}

func somePassages() []impl.Passage {
	return []impl.Passage{
		passageOf(0, 0, 0, 30), passageOf(0, 1, 30, 60), passageOf(1, 0, 10, 70), backward(passageOf(1, 1, 40, 45)), passageOf(2, 0, 45, 50), backward(passageOf(2, 0, 5, 6)), passageOf(3, 1, 20, 50), passageOf(3, 2, 0, 60), passageOf(4, 2, 0, 60), backward(passageOf(0, 0, 90, 20)), passageOf(5, -1, 0, 60),
	}
}

func TestFirstConflictOfEveryList(t *testing.T) {
	c := crossing()
	for n := range 5 {
		for _, numbers := range beginsOf([]int{0, 1, 2, 3, 4, 5, 6, 7, 8, 9, 10}, n) {
			var list []impl.Passage
			for _, number := range numbers {
				list = append(list, somePassages()[number])
			}
			for _, r := range []impl.Regime{regime(0), fog(10)} {
				want := slowFirst(c, r, list)
				checkFirstConflict(t, c, r, list, want[0], want[1], want[2])
			}
		}
	}
}

// listsToRefuse gives lists with conflicts and without.
func listsToRefuse() [][]impl.Passage {
	lists := [][]impl.Passage{nil, {}, {passageOf(0, 0, 0, 30)}, convoy(3), somePassages()}
	for _, pair := range encounters(0) {
		lists = append(lists, pair[:])
	}
	return lists
}

func TestFirstConflictRefuses(t *testing.T) {
	for _, list := range listsToRefuse() {
		for _, c := range badCharts() {
			checkNoRules(t, c, regime(10), list)
		}
		for _, r := range badRegimes() {
			checkNoRules(t, crossing(), r, list)
			checkNoRules(t, impl.Chart{}, r, list)
		}
	}
}
