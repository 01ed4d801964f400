package impl

import (
	"strconv"
	"strings"
)

const maxNameBytes = 8
const maxPadBytes = 2000

func FormatInt(n int) string { return strconv.Itoa(n) }

// strconv.Atoi also accepts "+7", "07" and "-0"; only the text that FormatInt
// writes is an integer here, so the number is formatted again and compared.
func ParseInt(s string) (int, bool) {
	n, err := strconv.Atoi(s)
	if err != nil || FormatInt(n) != s {
		return 0, false
	}
	return n, true
}

// A byte that is not valid UTF-8 is scanned as the rune U+FFFD, which is
// neither a digit nor a letter, so scanning by runes rejects it.
func IsDigits(s string) bool {
	for _, r := range s {
		if !isDigitRune(r) {
			return false
		}
	}
	return s != ""
}

func IsName(s string) bool {
	if s == "" || len(s) > maxNameBytes {
		return false
	}
	for i, r := range s {
		if !isLetterRune(r) && (i == 0 || !isDigitRune(r)) {
			return false
		}
	}
	return true
}

func isDigitRune(r rune) bool { return r >= '0' && r <= '9' }

func isLetterRune(r rune) bool { return r >= 'a' && r <= 'z' }

// Separators are bytes, even inside a longer UTF-8 sequence, so this is the
// one scan that cannot go by runes. The parts are cloned because a result
// shares no memory with an argument.
func SplitAny(s string, by string) []string {
	separators := bytesIn(by)
	var parts []string
	start := 0
	for i := range len(s) {
		if separators[s[i]] {
			parts = append(parts, strings.Clone(s[start:i]))
			start = i + 1
		}
	}
	return append(parts, strings.Clone(s[start:]))
}

func bytesIn(s string) [256]bool {
	var set [256]bool
	for i := range len(s) {
		set[s[i]] = true
	}
	return set
}

func SplitLines(s string) []string {
	lines := SplitAny(s, "\n")
	last := len(lines) - 1
	if lines[last] == "" {
		return lines[:last]
	}
	return lines
}

func Join(l []string, by string) string { return joinParts(by, l...) }

// Not strings.Join, which returns the only element of a list itself and so
// would share its memory.
func joinParts(by string, parts ...string) string {
	var b strings.Builder
	for i, part := range parts {
		if i > 0 {
			b.WriteString(by)
		}
		b.WriteString(part)
	}
	return b.String()
}

// The lengths are compared before they are subtracted: for the least n the
// difference would wrap around.
func PadZeros(s string, n int) string {
	zeros := ""
	if n > len(s) && n <= maxPadBytes {
		zeros = strings.Repeat("0", n-len(s))
	}
	return joinParts("", zeros, s)
}
