// Package spot is layer 1: places in a text, as complex numbers: see shared/doc/01-spot.md.
package spot

import (
	"math"
	"strconv"
	"strings"
)

// A float holds each whole number up to twice this bound as it is, so that the sum of two parts is never rounded.
const most = 1 << 50

// Of is the spot at a text's end.
func Of(s string) complex128 {
	lines := strings.Count(s, "\n")
	column := len(s) - (strings.LastIndexByte(s, '\n') + 1)
	return complex(float64(lines), float64(column))
}

// Is tells whether a number is a spot.
func Is(c complex128) bool {
	return isPart(real(c)) && isPart(imag(c))
}

// isPart tells whether a number may be a line or a column. Not a number is none, as no comparison with it holds.
func isPart(x float64) bool {
	return x >= 0 && x <= most && x == math.Trunc(x)
}

// Join is where one is at b, having begun at a.
func Join(a, b complex128) (complex128, bool) {
	if !Is(a) || !Is(b) {
		return 0, false
	}
	line, column := real(a)+real(b), imag(b)
	if real(b) == 0 {
		column += imag(a)
	}
	// The sign of a nought says nothing of a place, so none is handed on.
	c := complex(math.Abs(line), math.Abs(column))
	if !Is(c) {
		return 0, false
	}
	return c, true
}

// At is the spot behind so many bytes.
func At(s string, n int) (complex128, bool) {
	if n < 0 || n > len(s) {
		return 0, false
	}
	return Of(s[:n]), true
}

// Find is how many bytes lie ahead of a spot.
func Find(s string, c complex128) (int, bool) {
	if !Is(c) {
		return 0, false
	}
	begin, ok := lineBegin(s, int(real(c)))
	if !ok {
		return 0, false
	}
	column := int(imag(c))
	if column > lineLen(s[begin:]) {
		return 0, false
	}
	return begin + column, true
}

// lineBegin is where a line of a text begins. It goes through the text but once, however great the line's number is.
func lineBegin(s string, line int) (int, bool) {
	begin := 0
	for range line {
		i := strings.IndexByte(s[begin:], '\n')
		if i < 0 {
			return 0, false
		}
		begin += i + 1
	}
	return begin, true
}

// lineLen is how many bytes a text's first line has, without its line feed: behind that one is on the next line.
func lineLen(s string) int {
	if i := strings.IndexByte(s, '\n'); i >= 0 {
		return i
	}
	return len(s)
}

// Less tells whether a spot is ahead of another one.
func Less(a, b complex128) bool {
	if !Is(a) || !Is(b) {
		return false
	}
	if real(a) != real(b) {
		return real(a) < real(b)
	}
	return imag(a) < imag(b)
}

// Text is a spot's text.
func Text(c complex128) string {
	if !Is(c) {
		return ""
	}
	return strconv.Itoa(int(real(c))) + ":" + strconv.Itoa(int(imag(c)))
}

// Parse is the spot of a text.
func Parse(s string) (complex128, bool) {
	left, right, ok := strings.Cut(s, ":")
	if !ok {
		return 0, false
	}
	line, ok := parsePart(left)
	if !ok {
		return 0, false
	}
	column, ok := parsePart(right)
	if !ok {
		return 0, false
	}
	return complex(line, column), true
}

// parsePart is the line or the column whose digits they are.
func parsePart(s string) (float64, bool) {
	if s == "" || s[0] == '0' && s != "0" {
		return 0, false
	}
	n := 0
	for i := range len(s) {
		if s[i] < '0' || s[i] > '9' {
			return 0, false
		}
		n = n*10 + int(s[i]-'0')
		// Asked at each digit, so that a long row of them can't wrap round to a small number.
		if n > most {
			return 0, false
		}
	}
	return float64(n), true
}
