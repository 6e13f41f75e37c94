package impl

import (
	"strconv"
	"strings"
)

const maxNameBytes = 8
const maxPadBytes = 2000

// FormatInt returns the decimal representation of n.
func FormatInt(n int) string {
	return strconv.Itoa(n)
}

// ParseInt returns the integer whose FormatInt is s.
func ParseInt(s string) (int, bool) {
	n, err := strconv.Atoi(s)
	// Atoi also accepts a plus sign, leading zeros and -0, which FormatInt never writes.
	if err != nil || FormatInt(n) != s {
		return 0, false
	}
	return n, true
}

// IsDigits reports whether s is a nonempty sequence of digits.
func IsDigits(s string) bool {
	for _, r := range s {
		if !isDigit(r) {
			return false
		}
	}
	return s != ""
}

// IsName reports whether s is a short name: a small letter, then small letters and digits.
func IsName(s string) bool {
	if len(s) < 1 || len(s) > maxNameBytes {
		return false
	}
	for i, r := range s {
		if !isSmallLetter(r) && (i == 0 || !isDigit(r)) {
			return false
		}
	}
	return true
}

func isDigit(r rune) bool {
	return '0' <= r && r <= '9'
}

func isSmallLetter(r rune) bool {
	return 'a' <= r && r <= 'z'
}

// SplitAny splits s at every byte that occurs in by.
func SplitAny(s string, by string) []string {
	// Bytes, not runes: by may hold a part of an encoded rune, or bytes that encode none.
	var cuts [256]bool
	for i := range len(by) {
		cuts[by[i]] = true
	}
	var parts []string
	start := 0
	for i := range len(s) {
		if cuts[s[i]] {
			parts = append(parts, s[start:i])
			start = i + 1
		}
	}
	return append(parts, s[start:])
}

// SplitLines returns the lines of s without their newlines.
func SplitLines(s string) []string {
	lines := SplitAny(s, "\n")
	last := len(lines) - 1
	if lines[last] == "" {
		return lines[:last]
	}
	return lines
}

// Join returns the elements of l separated by by.
func Join(l []string, by string) string {
	return joinParts(by, l...)
}

// joinParts takes its parts one by one, so that callers need no list to make a line of a few texts.
func joinParts(by string, parts ...string) string {
	return strings.Join(parts, by)
}

// PadZeros returns s with leading zeros up to a length of n bytes.
func PadZeros(s string, n int) string {
	if n <= len(s) || n > maxPadBytes {
		return s
	}
	return joinParts("", strings.Repeat("0", n-len(s)), s)
}
