package tests

import (
	"testing"

	"loop.example/g00831/impl"
)

func checkMinutesOn(t *testing.T, c impl.Chart, number int, s impl.Ship, want int) {
	t.Helper()
	if got := impl.MinutesOn(c, number, s); got != want {
		t.Errorf("MinutesOn(%v, %d, %+v) is %d, want %d", c, number, s, got, want)
	}
}

func TestMinutesOn(t *testing.T) {
	c := fullChart()
	quick := shipOf("quick", 150, 800, 1, 2)
	for i, want := range []int{1, 240, 20, 20, 30, 31, 60, 5, 9, 17} {
		checkMinutesOn(t, c, i, quick, want)
		checkMinutesOn(t, c, i, slowly(quick), 2*want)
	}
	checkMinutesOn(t, c, 10, quick, 0)
	checkMinutesOn(t, c, -1, quick, 0)
	checkMinutesOn(t, impl.Chart{}, 0, quick, 0)
}

// A ship's time depends on nothing of it but whether it is slow.
func TestMinutesOnEverySegment(t *testing.T) {
	for _, c := range goodCharts() {
		for _, s := range goodShips() {
			for _, number := range numbersAround(len(c.Segments)) {
				want := 0
				if number >= 0 && number < len(c.Segments) {
					want = c.Segments[number].Minutes
				}
				if s.Slow {
					want += want
				}
				checkMinutesOn(t, c, number, s, want)
			}
		}
	}
}

func TestMinutesOnRefuses(t *testing.T) {
	good := shipOf("good", 150, 800, 1, 2)
	for _, c := range badCharts() {
		for _, number := range numbersAround(len(c.Segments)) {
			checkMinutesOn(t, c, number, good, 0)
			checkMinutesOn(t, c, number, slowly(good), 0)
		}
		checkMinutesOn(t, c, 0, impl.Ship{}, 0)
	}
	for _, s := range badShips() {
		for _, c := range goodCharts() {
			for _, number := range numbersAround(len(c.Segments)) {
				checkMinutesOn(t, c, number, s, 0)
			}
		}
	}
}

func checkSquat(t *testing.T, s impl.Ship, want int) {
	t.Helper()
	if got := impl.SquatOf(s); got != want {
		t.Errorf("SquatOf(%+v) is %d, want %d", s, got, want)
	}
}

func TestSquatOf(t *testing.T) {
	for _, w := range [][3]int{{100, 5, 2}, {101, 5, 2}, {119, 5, 2}, {120, 6, 2}, {149, 7, 2}, {150, 7, 3}, {199, 9, 3}, {200, 10, 4}, {600, 30, 12}, {800, 40, 16}, {819, 40, 16}, {1980, 99, 39}, {1999, 99, 39}, {2000, 100, 40}} {
		s := shipOf("s", 150, w[0], 1, 2)
		checkSquat(t, s, w[1])
		checkSquat(t, slowly(s), w[2])
	}
}

// wholeTimes counts how often part can be taken from n.
func wholeTimes(n int, part int) int {
	count := 0
	for ; n >= part; n -= part {
		count++
	}
	return count
}

func TestSquatOfEveryDraught(t *testing.T) {
	for draught := 100; draught <= 2000; draught++ {
		s := shipOf("s", 10+draught%391, draught, draught%4, draught%5)
		checkSquat(t, s, wholeTimes(draught, 20))
		checkSquat(t, slowly(s), wholeTimes(draught, 50))
	}
}

func TestSquatOfRefuses(t *testing.T) {
	for _, s := range badShips() {
		checkSquat(t, s, 0)
	}
}
