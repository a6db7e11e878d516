package impl

import (
	"strconv"
	"strings"
)

const (
	maxNameBytes = 8
	maxPadBytes  = 2000
)

func FormatInt(n int) string { return strconv.Itoa(n) }

// ParseInt formats the number again, because Atoi also accepts "+1", "-0" and leading zeros.
func ParseInt(s string) (int, bool) {
	n, err := strconv.Atoi(s)
	if err != nil || FormatInt(n) != s {
		return 0, false
	}
	return n, true
}

func IsDigits(s string) bool {
	for _, r := range s {
		if !isDigit(r) {
			return false
		}
	}
	return s != ""
}

func IsName(s string) bool {
	if s == "" || len(s) > maxNameBytes {
		return false
	}
	for i, r := range s {
		if !isSmallLetter(r) && (i == 0 || !isDigit(r)) {
			return false
		}
	}
	return true
}

// SplitAny goes byte by byte, not rune by rune: a byte of by may be a part of a longer rune of s.
func SplitAny(s string, by string) []string {
	splits := bytesOf(by)
	var parts []string
	start := 0
	for i := range len(s) {
		if splits[s[i]] {
			parts = append(parts, s[start:i])
			start = i + 1
		}
	}
	return append(parts, s[start:])
}

// SplitLines may go rune by rune: a newline is never a part of another rune, not even in invalid UTF-8.
func SplitLines(s string) []string {
	var lines []string
	start := 0
	for i, r := range s {
		if r == '\n' {
			lines = append(lines, s[start:i])
			start = i + 1
		}
	}
	if start < len(s) {
		lines = append(lines, s[start:])
	}
	return lines
}

func Join(l []string, by string) string { return joinTexts(by, l...) }

func PadZeros(s string, n int) string {
	if len(s) >= n || n > maxPadBytes {
		return s
	}
	return joinTexts("", strings.Repeat("0", n-len(s)), s)
}

func joinTexts(by string, texts ...string) string { return strings.Join(texts, by) }

func isDigit(r rune) bool { return '0' <= r && r <= '9' }

func isSmallLetter(r rune) bool { return 'a' <= r && r <= 'z' }

func bytesOf(s string) [256]bool {
	var set [256]bool
	for i := range len(s) {
		set[s[i]] = true
	}
	return set
}
