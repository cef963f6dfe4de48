package tests

import (
	"math"
	"slices"
	"strings"
	"testing"

	"loop.example/g00831/impl"
)

func TestSplitAny(t *testing.T) {
	for _, c := range []struct {
		s, by string
		want  []string
	}{
		{"a,b c", ", ", []string{"a", "b", "c"}},
		{"", "", []string{""}},
		{"", ",", []string{""}},
		{"a,b c", "", []string{"a,b c"}},
		{"abc", ",", []string{"abc"}},
		{",", ",", []string{"", ""}},
		{",a,", ",", []string{"", "a", ""}},
		{"a, ,b", ", ", []string{"a", "", "", "b"}},
		{"a,b", ",,,", []string{"a", "b"}},
		{"aXbxc", "x", []string{"aXb", "c"}},
		{"a\x00b\nc", "\x00\n", []string{"a", "b", "c"}},
		{"a\u00e9b", "\u00e9", []string{"a", "", "b"}},
		{"\u00e9", "\xa9", []string{"\xc3", ""}},
		{"\u00e9\u00e8", "\xc3", []string{"", "\xa9", "\xa8"}},
		{"a\xffb\xfec", "\xfe", []string{"a\xffb", "c"}},
		{"a\xffb\ufffdc", "\xff", []string{"a", "b\ufffdc"}},
		{"a\xffb\ufffdc", "\ufffd", []string{"a\xffb", "", "", "c"}},
	} {
		if got := impl.SplitAny(c.s, c.by); !slices.Equal(got, c.want) {
			t.Errorf("SplitAny(%q, %q) = %q, want %q", c.s, c.by, got, c.want)
		}
	}
}

// splitSlowly makes all cutting bytes the same one first, so that a single cut does the rest.
func splitSlowly(s string, by string) []string {
	if by == "" {
		return []string{s}
	}
	same := []byte(s)
	for i, b := range same {
		if strings.IndexByte(by, b) >= 0 {
			same[i] = by[0]
		}
	}
	return strings.Split(string(same), by[:1])
}

func TestSplitAnyOfEveryShortText(t *testing.T) {
	for _, s := range wordsOver([]string{"a", ",", " ", "\xc3", "\xa9", "\xff"}, 5) {
		for _, by := range []string{"", ",", ", ", "\u00e9", "\xa9", "a\xff", "\ufffd", "\n"} {
			if got, want := impl.SplitAny(s, by), splitSlowly(s, by); !slices.Equal(got, want) {
				t.Errorf("SplitAny(%q, %q) = %q, want %q", s, by, got, want)
			}
		}
	}
}

func TestSplitAnyAtEveryByte(t *testing.T) {
	for b := range 256 {
		cut := string([]byte{byte(b)})
		other := string([]byte{byte(b) ^ 1})
		if got := impl.SplitAny(other+cut+other, cut); !slices.Equal(got, []string{other, other}) {
			t.Errorf("split at byte %d: %q", b, got)
		}
	}
}

func TestSplitLines(t *testing.T) {
	for s, want := range map[string][]string{
		"":                 {},
		"\n":               {""},
		"\n\n":             {"", ""},
		"a":                {"a"},
		"a\n":              {"a"},
		"a\nb":             {"a", "b"},
		"a\nb\n":           {"a", "b"},
		"\na":              {"", "a"},
		"a\n\nb\n\n":       {"a", "", "b", ""},
		"a\n ":             {"a", " "},
		"a\r\nb\rc":        {"a\r", "b\rc"},
		"a\vb\fc\u2028\n":  {"a\vb\fc\u2028"},
		"\xe4\n\xff\n\xc3": {"\xe4", "\xff", "\xc3"},
		"\u010a\u0a0a":     {"\u010a\u0a0a"},
		"\x00\n\x00":       {"\x00", "\x00"},
	} {
		if got := impl.SplitLines(s); !slices.Equal(got, want) {
			t.Errorf("SplitLines(%q) = %q, want %q", s, got, want)
		}
	}
}

func TestLinesAreRecovered(t *testing.T) {
	for _, s := range wordsOver([]string{"a", "\n", "\r", "\xe4", "\u00e9"}, 6) {
		got := impl.SplitLines(s)
		closed := s
		if s != "" && !strings.HasSuffix(s, "\n") {
			closed += "\n"
		}
		rebuilt := ""
		for _, line := range got {
			if strings.Contains(line, "\n") {
				t.Errorf("SplitLines(%q) keeps a newline: %q", s, got)
			}
			rebuilt += line + "\n"
		}
		if rebuilt != closed {
			t.Errorf("SplitLines(%q) = %q", s, got)
		}
	}
}

func TestJoin(t *testing.T) {
	for _, c := range []struct {
		l    []string
		by   string
		want string
	}{
		{nil, ",", ""},
		{[]string{}, ",", ""},
		{nil, "", ""},
		{[]string{""}, ",", ""},
		{[]string{"a"}, ",", "a"},
		{[]string{"", ""}, ",", ","},
		{[]string{"a", "b", "c"}, "-", "a-b-c"},
		{[]string{"a", "b", "c"}, "", "abc"},
		{[]string{"a", "", "c"}, " > ", "a >  > c"},
		{[]string{"", "b", ""}, ",", ",b,"},
		{[]string{"\xc3", "\xff"}, "\xa9", "\xc3\xa9\xff"},
		{[]string{"\u00e9", "\x00"}, "\n", "\u00e9\n\x00"},
	} {
		if got := impl.Join(c.l, c.by); got != c.want {
			t.Errorf("Join(%q, %q) = %q, want %q", c.l, c.by, got, c.want)
		}
	}
}

func TestJoinUndoesSplitAny(t *testing.T) {
	for _, s := range wordsOver([]string{"a", ",", "\xc3", "\xa9", "\u00e9"}, 5) {
		for _, by := range []string{",", "a", "\xc3", "\xa9"} {
			if got := impl.Join(impl.SplitAny(s, by), by); got != s {
				t.Errorf("%q split and joined by %q is %q", s, by, got)
			}
		}
	}
}

func TestPadZeros(t *testing.T) {
	long := strings.Repeat("x", 1999)
	for _, c := range []struct {
		s    string
		n    int
		want string
	}{
		{"7", 3, "007"}, {"7", 2, "07"}, {"7", 1, "7"}, {"7", 0, "7"}, {"7", -1, "7"},
		{"7", math.MinInt, "7"}, {"7", math.MaxInt, "7"}, {"", math.MinInt, ""}, {"", math.MaxInt, ""},
		{"", 0, ""}, {"", 1, "0"}, {"", 3, "000"}, {"0", 2, "00"}, {"-5", 4, "00-5"}, {"123", 2, "123"}, {"123", 4, "0123"},
		{"\u00e9", 2, "\u00e9"}, {"\u00e9", 3, "0\u00e9"}, {"\xff", 2, "0\xff"}, {"a b", 5, "00a b"},
		{"7", 1999, strings.Repeat("0", 1998) + "7"}, {"7", 2000, strings.Repeat("0", 1999) + "7"}, {"7", 2001, "7"},
		{"", 2000, strings.Repeat("0", 2000)}, {"", 2001, ""},
		{long, 1999, long}, {long, 2000, "0" + long}, {long, 2001, long},
		{long + "xx", 2000, long + "xx"}, {long + "xx", 2001, long + "xx"}, {long + "xx", 2002, long + "xx"},
	} {
		if got := impl.PadZeros(c.s, c.n); got != c.want {
			t.Errorf("PadZeros(%.20q of %d bytes, %d) has %d bytes, want %d", c.s, len(c.s), c.n, len(got), len(c.want))
		}
	}
}

func TestTextArgumentsAreUnchanged(t *testing.T) {
	room := []string{"a", "b", "", "\xff", "spare", "spare"}
	before := slices.Clone(room)
	for n := range 5 {
		impl.Join(room[:n], "-")
		impl.Join(room[1:n+1], "")
	}
	if !slices.Equal(room, before) {
		t.Errorf("Join changed its list or the room behind it: %q", room)
	}
}

func TestSplitResultsAreNew(t *testing.T) {
	for name, split := range map[string]func() []string{
		"SplitAny":   func() []string { return impl.SplitAny("a,b,c", ",") },
		"SplitLines": func() []string { return impl.SplitLines("a\nb\nc\n") },
	} {
		first := split()
		for i := range first {
			first[i] = "changed"
		}
		_ = append(first, "changed")
		if got := split(); !slices.Equal(got, []string{"a", "b", "c"}) {
			t.Errorf("%s gives %q after its earlier result was changed", name, got)
		}
	}
}
