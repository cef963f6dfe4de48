package tests

import (
	"slices"
	"testing"

	"loop.example/g00831/impl"
)

// checkClashes asks in both orders, which make no difference.
func checkClashes(t *testing.T, c impl.Chart, r impl.Regime, a []impl.Passage, b []impl.Passage, want bool) {
	t.Helper()
	for _, lists := range [][2][]impl.Passage{{a, b}, {b, a}} {
		if got := impl.Clashes(c, r, lists[0], lists[1]); got != want {
			t.Errorf("Clashes(%v, %+v, %+v, %+v) is %v", c, r, lists[0], lists[1], got)
		}
	}
}

func TestClashesOfEmptyLists(t *testing.T) {
	for _, c := range goodCharts() {
		checkClashes(t, c, fog(60), nil, nil, false)
		checkClashes(t, c, fog(60), nil, chainOf(), false)
		for _, list := range listsToRefuse() {
			checkClashes(t, c, fog(60), nil, list, false)
			checkClashes(t, c, fog(60), chainOf(), list, false)
		}
	}
}

// laterConvoy gives n passages that are far from all others.
func laterConvoy(n int) []impl.Passage {
	list := convoy(n)
	for i := range list {
		list[i] = passageOf(50+i, 0, 1000+100*i, 1030+100*i)
	}
	return list
}

func TestClashesOfOnePair(t *testing.T) {
	for n := 1; n <= 4; n++ {
		for m := 1; m <= 4; m++ {
			checkClashes(t, crossing(), regime(10), convoy(n), laterConvoy(m), false)
			for i := range n {
				for k := range m {
					for _, rival := range rivals(convoy(n)[i]) {
						b := laterConvoy(m)
						b[k] = rival
						checkClashes(t, crossing(), regime(10), convoy(n), b, true)
					}
				}
			}
		}
	}
}

// A conflict within one of the lists is none between them.
func TestClashesWithinOneList(t *testing.T) {
	for _, pair := range encounters(0) {
		checkFirstConflict(t, crossing(), regime(10), pair[:], 0, 1, impl.ConflictOf(crossing(), regime(10), pair[0], pair[1]))
		checkClashes(t, crossing(), regime(10), pair[:], nil, false)
		late := passageOf(50, 0, 4000, 4030)
		checkClashes(t, crossing(), regime(10), pair[:], chainOf(late), false)
		checkClashes(t, crossing(), regime(10), pair[:], chainOf(late, late), false)
	}
}

// A passage overlaps itself if it has a minute.
func TestClashesOfAListWithItself(t *testing.T) {
	for n := 1; n < 5; n++ {
		checkClashes(t, crossing(), regime(10), convoy(n), convoy(n), true)
	}
	none := chainOf(passageOf(0, 0, 100, 100), backward(passageOf(0, 0, 130, 90)))
	checkClashes(t, crossing(), regime(10), none, none, false)
	away := chainOf(passageOf(0, 2, 0, 30), passageOf(0, -1, 0, 30))
	checkClashes(t, crossing(), regime(10), away, away, false)
}

func TestClashesOfEveryTwoLists(t *testing.T) {
	c, r := crossing(), regime(10)
	pool := somePassages()
	lists := slices.Concat(beginsOf([]int{0, 1, 2, 3, 4, 5, 6, 7, 8, 9, 10}, 1), beginsOf([]int{0, 2, 3, 5, 6, 9}, 2), beginsOf([]int{1, 4, 7}, 3))
	for _, x := range lists {
		for _, y := range lists {
			var a, b []impl.Passage
			for _, i := range x {
				a = append(a, pool[i])
			}
			want := false
			for _, k := range y {
				b = append(b, pool[k])
				for _, i := range x {
					want = want || slowFirst(c, r, chainOf(pool[i], pool[k]))[2] != impl.CfNone
				}
			}
			checkClashes(t, c, r, a, b, want)
		}
	}
}

func TestClashesRefuses(t *testing.T) {
	for _, pair := range append(encounters(0), [2]impl.Passage{}) {
		a, b := chainOf(pair[0], passageOf(9, 0, 500, 530)), chainOf(pair[1], pair[1])
		for _, c := range badCharts() {
			checkClashes(t, c, regime(10), a, b, false)
			checkClashes(t, c, regime(10), a, nil, false)
		}
		for _, r := range badRegimes() {
			checkClashes(t, crossing(), r, a, b, false)
			checkClashes(t, crossing(), r, nil, b, false)
		}
	}
}
