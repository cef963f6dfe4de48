package tests

import (
	"math"
	"testing"

	"loop.example/g00831/impl"
)

func dutyOf(from int, to int, a int, b int) impl.Duty {
	return impl.Duty{From: from, To: to, A: a, B: b}
}

func dutiesOf(list ...impl.Duty) []impl.Duty { return list }

// dutiesInTurn gives n duties of 50 minutes with 40 minutes between them, from each point to the next one but two. Up to twelve of them are a valid list.
func dutiesInTurn(n int) []impl.Duty {
	var list []impl.Duty
	for i := range n {
		list = append(list, dutyOf(90*i, 90*i+50, i%8, (i+3)%8))
	}
	return list
}

// dutiesAtOnce gives n duties of the same time. Up to twelve of them are a valid list.
func dutiesAtOnce(n int) []impl.Duty {
	var list []impl.Duty
	for i := range n {
		list = append(list, dutyOf(1000, 1100, (i+5)%8, i%8))
	}
	return list
}

func goodDuties() []impl.Duty {
	return dutiesOf(dutyOf(0, 1, 0, 0), dutyOf(0, 2880, 7, 7), dutyOf(2879, 2880, 0, 7), dutyOf(100, 200, 3, 5), dutyOf(100, 101, 7, 0), dutyOf(1, 2879, 4, 4))
}

// badDuties gives duties that are valid but for one field or for the order of their minutes.
func badDuties() []impl.Duty {
	list := dutiesOf(impl.Duty{}, dutyOf(-1, 0, 0, 0), dutyOf(2880, 2880, 0, 0), dutyOf(2880, 2881, 0, 0), dutyOf(math.MinInt, math.MaxInt, 0, 0), dutyOf(math.MaxInt, math.MinInt, 0, 0), dutyOf(200, 100, 3, 5))
	for _, from := range []int{math.MinInt, math.MinInt + 1, -2881, -2, -1, 200, 201, 202, math.MaxInt - 1, math.MaxInt} {
		list = append(list, dutyOf(from, 200, 3, 5))
	}
	for _, to := range []int{math.MinInt, math.MinInt + 1, -1, 0, 99, 100, 2881, 2882, math.MaxInt - 1, math.MaxInt} {
		list = append(list, dutyOf(100, to, 3, 5))
	}
	for _, point := range []int{math.MinInt, math.MinInt + 1, -8, -2, -1, 8, 9, 64, math.MaxInt - 1, math.MaxInt} {
		list = append(list, dutyOf(100, 200, point, 5), dutyOf(100, 200, 3, point), dutyOf(100, 200, point, point))
	}
	return list
}

// badDutyLists gives too many duties, and a duty that is not valid at each place among valid ones.
func badDutyLists() [][]impl.Duty {
	lists := [][]impl.Duty{dutiesInTurn(13), dutiesAtOnce(13), dutiesInTurn(14), dutiesAtOnce(300), make([]impl.Duty, 12), make([]impl.Duty, 13)}
	for _, d := range badDuties() {
		lists = append(lists, dutiesOf(d), dutiesOf(d, d))
		for i := range 12 {
			turns := dutiesInTurn(12)
			turns[i] = d
			lists = append(lists, turns, turns[:i+1])
		}
	}
	return lists
}

func checkDutiesOk(t *testing.T, list []impl.Duty, want bool) {
	t.Helper()
	if got := impl.DutiesOk(list); got != want {
		t.Errorf("DutiesOk(%+v) is %v", list, got)
	}
}

func TestDutyConstants(t *testing.T) {
	if impl.MaxDuties != 12 {
		t.Errorf("MaxDuties is %d", impl.MaxDuties)
	}
}

func TestDutiesOk(t *testing.T) {
	checkDutiesOk(t, nil, true)
	checkDutiesOk(t, []impl.Duty{}, true)
	checkDutiesOk(t, goodDuties(), true)
	for _, d := range goodDuties() {
		checkDutiesOk(t, dutiesOf(d), true)
		checkDutiesOk(t, dutiesOf(d, d), true)
	}
	for _, list := range badDutyLists() {
		checkDutiesOk(t, list, false)
	}
}

func TestDutiesOkOfEveryNumber(t *testing.T) {
	for n := range 30 {
		checkDutiesOk(t, dutiesInTurn(n), n <= 12)
		checkDutiesOk(t, dutiesAtOnce(n), n <= 12)
	}
}

func TestDutiesOkOfEveryTime(t *testing.T) {
	for _, from := range minutesAround() {
		for _, to := range minutesAround() {
			ok := from >= 0 && from < to && to <= 2880
			checkDutiesOk(t, dutiesOf(dutyOf(from, to, 0, 7)), ok)
			checkDutiesOk(t, dutiesOf(dutyOf(0, 2880, 1, 1), dutyOf(from, to, 7, 0)), ok)
			checkDutiesOk(t, dutiesOf(dutyOf(from, to, 7, 0), dutyOf(0, 2880, 1, 1)), ok)
		}
	}
}

func TestDutiesOkOfEveryPoint(t *testing.T) {
	for _, a := range numbersAround(8) {
		for _, b := range numbersAround(8) {
			ok := within(a, 0, 7) && within(b, 0, 7)
			checkDutiesOk(t, dutiesOf(dutyOf(0, 2880, a, b)), ok)
			checkDutiesOk(t, append(dutiesInTurn(11), dutyOf(100, 101, a, b)), ok)
		}
	}
}
