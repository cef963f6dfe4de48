package tests

import (
	"fmt"
	"math"
	"regexp"
	"strings"
	"testing"

	"loop.example/g00831/impl"
)

// someInts gives the small numbers and the neighbours of all powers of 2 and 10, of both signs.
func someInts() []int {
	list := []int{math.MinInt, math.MinInt + 1, math.MaxInt - 1, math.MaxInt}
	for n := -1200; n <= 1200; n++ {
		list = append(list, n)
	}
	for _, base := range []int{2, 10} {
		for p := base; p <= math.MaxInt/base; p *= base {
			list = append(list, p-1, p, p+1, 1-p, -p, -p-1)
		}
	}
	return list
}

// wordsOver gives all strings of at most n of the letters, the empty one first.
func wordsOver(letters []string, n int) []string {
	all := []string{""}
	longest := all
	for range n {
		var longer []string
		for _, w := range longest {
			for _, l := range letters {
				longer = append(longer, w+l)
			}
		}
		all = append(all, longer...)
		longest = longer
	}
	return all
}

func TestFormatInt(t *testing.T) {
	for n, want := range map[int]string{
		0: "0", 1: "1", -1: "-1", 7: "7", 10: "10", -10: "-10", 907: "907", -5: "-5",
		math.MaxInt: "9223372036854775807", math.MinInt: "-9223372036854775808",
	} {
		if got := impl.FormatInt(n); got != want {
			t.Errorf("FormatInt(%d) = %q, want %q", n, got, want)
		}
	}
	for _, n := range someInts() {
		if got, want := impl.FormatInt(n), fmt.Sprintf("%d", n); got != want {
			t.Errorf("FormatInt(%d) = %q", n, got)
		}
	}
}

func TestNumbersAreRecovered(t *testing.T) {
	for _, n := range someInts() {
		text := impl.FormatInt(n)
		if got, ok := impl.ParseInt(text); got != n || !ok {
			t.Errorf("ParseInt(%q) = %d, %v, want %d, true", text, got, ok, n)
		}
	}
}

func TestParseIntOfEveryShortWord(t *testing.T) {
	written := regexp.MustCompile(`^(0|-?[1-9][0-9]*)$`)
	for _, s := range wordsOver([]string{"0", "1", "9", "-", "+", " ", "_", "x", "\n", "\xff"}, 4) {
		n, ok := impl.ParseInt(s)
		if ok != written.MatchString(s) {
			t.Errorf("ParseInt(%q) reports %v", s, ok)
		}
		if ok && fmt.Sprint(n) != s || !ok && n != 0 {
			t.Errorf("ParseInt(%q) = %d, %v", s, n, ok)
		}
	}
}

func TestParseIntRefuses(t *testing.T) {
	for _, s := range []string{
		"", "-", "+", "+1", "+0", "-0", "00", "07", "-07", "000", "--1", "1-", "-+1",
		" 1", "1 ", "\t1", "1\n", "1\x00", "\x00", "1_000", "0x1f", "0b1", "0o7", "1e3", "1.0", "1,0", "a", "inf",
		"9223372036854775808", "-9223372036854775809", "9223372036854775817", "10000000000000000000",
		"18446744073709551615", "18446744073709551616", "18446744073709551617", "-18446744073709551615",
		"09223372036854775807", "-09223372036854775808", "+9223372036854775807",
		strings.Repeat("9", 5000), "-" + strings.Repeat("9", 5000), strings.Repeat("0", 5000), strings.Repeat("0", 5000) + "1",
		"\u0661", "\u096b", "\uff15", "\u22125", "\u0130", "\xff", "1\xff", "\xb11", "5\xcc", "\xe45",
	} {
		if n, ok := impl.ParseInt(s); n != 0 || ok {
			t.Errorf("ParseInt(%.40q) = %d, %v, want 0, false", s, n, ok)
		}
	}
}
