package tests

import (
	"strings"
	"testing"

	"loop.example/g00831/impl"
)

func digitByte(b byte) bool { return strings.IndexByte("0123456789", b) >= 0 }

func letterByte(b byte) bool { return strings.IndexByte("abcdefghijklmnopqrstuvwxyz", b) >= 0 }

func TestWordsOfOneAndTwoBytes(t *testing.T) {
	for a := range 256 {
		first := byte(a)
		one := string([]byte{first})
		if impl.IsDigits(one) != digitByte(first) || impl.IsName(one) != letterByte(first) {
			t.Errorf("%q: IsDigits %v, IsName %v", one, impl.IsDigits(one), impl.IsName(one))
		}
		for b := range 256 {
			second := byte(b)
			two := string([]byte{first, second})
			if impl.IsDigits(two) != (digitByte(first) && digitByte(second)) {
				t.Errorf("IsDigits(%q) = %v", two, impl.IsDigits(two))
			}
			if impl.IsName(two) != (letterByte(first) && (letterByte(second) || digitByte(second))) {
				t.Errorf("IsName(%q) = %v", two, impl.IsName(two))
			}
		}
	}
}

func TestIsDigits(t *testing.T) {
	for s, want := range map[string]bool{
		"": false, "0": true, "9": true, "09": true, "0123456789": true, "000": true,
		strings.Repeat("7", 5000): true, strings.Repeat("7", 5000) + "x": false,
		"-1": false, "+1": false, "1 ": false, " 1": false, "1\n": false, "1.5": false, "1a2": false, "12\x00": false,
		"\u0661": false, "1\u0662": false, "\uff15": false, "\u0130": false, "1\xff": false, "\xe49": false, "9\xb9": false, "\ufffd": false,
	} {
		if got := impl.IsDigits(s); got != want {
			t.Errorf("IsDigits(%.40q) = %v, want %v", s, got, want)
		}
	}
}

func TestIsName(t *testing.T) {
	for s, want := range map[string]bool{
		"": false, "a": true, "z": true, "x1": true, "a0": true, "z9z9": true, "abcdefgh": true, "a1234567": true, "zzzzzzz0": true,
		"abcdefghi": false, "a12345678": false, strings.Repeat("a", 5000): false,
		"1": false, "1x": false, "0": false, "A": false, "aB": false, "a_b": false, "a b": false, " a": false, "a ": false, "a-": false, "a\n": false, "a\x00": false,
		"\u00e9": false, "a\u00e9": false, "\u0161": false, "a\u0161": false, "a\u0130": false, "\uff41": false, "\u0661": false, "a\u0661": false,
		"\xff": false, "a\xff": false, "\xc3a": false, "a\xe1b": false, "abcdefg\xff": false, "a\ufffd": false,
	} {
		if got := impl.IsName(s); got != want {
			t.Errorf("IsName(%.40q) = %v, want %v", s, got, want)
		}
	}
}
