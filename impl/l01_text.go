package impl

import (
	"strconv"
	"strings"
)

const nameBytes = 8
const paddedBytes = 2000

func FormatInt(n int) string { return strconv.Itoa(n) }

// Atoi also accepts a plus sign, leading zeros and -0, which FormatInt never writes.
func ParseInt(s string) (int, bool) {
	n, err := strconv.Atoi(s)
	if err != nil || FormatInt(n) != s {
		return 0, false
	}
	return n, true
}

// A byte that is no valid UTF-8 is scanned as the rune U+FFFD, and a character of several bytes as a rune above 127: neither is a digit or a letter, so the scan by runes judges every byte.
func IsDigits(s string) bool {
	for _, r := range s {
		if !isDigit(r) {
			return false
		}
	}
	return s != ""
}

func IsName(s string) bool {
	if s == "" || len(s) > nameBytes {
		return false
	}
	for i, r := range s {
		if !isLetter(r) && (i == 0 || !isDigit(r)) {
			return false
		}
	}
	return true
}

func isDigit(r rune) bool { return '0' <= r && r <= '9' }

func isLetter(r rune) bool { return 'a' <= r && r <= 'z' }

// The scan is by bytes, because by may hold bytes that are only a part of a character of s.
func SplitAny(s string, by string) []string {
	cuts := bytesIn(by)
	var parts []string
	start := 0
	for i := range len(s) {
		if cuts[s[i]] {
			parts = append(parts, s[start:i])
			start = i + 1
		}
	}
	return append(parts, s[start:])
}

func bytesIn(s string) [256]bool {
	var found [256]bool
	for i := range len(s) {
		found[s[i]] = true
	}
	return found
}

func SplitLines(s string) []string {
	lines := SplitAny(s, "\n")
	last := len(lines) - 1
	if lines[last] == "" {
		return lines[:last]
	}
	return lines
}

func Join(l []string, by string) string { return joined(by, l...) }

func joined(by string, parts ...string) string { return strings.Join(parts, by) }

func PadZeros(s string, n int) string {
	if len(s) >= n || n > paddedBytes {
		return s
	}
	return joined("", strings.Repeat("0", n-len(s)), s)
}
