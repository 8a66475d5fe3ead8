// Package ascii is layer 1: signs of seven bits, and numbers: see shared/doc/01-ascii.md.
package ascii

import (
	"math"
	"strconv"
	"strings"

	"cringle/api"
)

const maxPad = 20

// IsBlank tells whether a byte is a blank.
func IsBlank(c byte) bool {
	switch c {
	case '\t', '\n', '\f', '\r', ' ':
		return true
	}
	return false
}

// IsDigit tells whether it is a digit.
func IsDigit(c byte) bool { return '0' <= c && c <= '9' }

// IsLetter tells whether it is a letter.
func IsLetter(c byte) bool { return isGreat(c) || 'a' <= c && c <= 'z' }

func isGreat(c byte) bool { return 'A' <= c && c <= 'Z' }

func lowerByte(c byte) byte {
	if isGreat(c) {
		return c - 'A' + 'a'
	}
	return c
}

// Lower is a text to lower. It goes byte by byte, so that bytes that are no UTF-8 stay as they are.
func Lower(s string) string {
	out := make([]byte, len(s))
	for i := range len(s) {
		out[i] = lowerByte(s[i])
	}
	return string(out)
}

// Same tells whether two are the same to lower.
func Same(a, b string) bool {
	if len(a) != len(b) {
		return false
	}
	for i := range len(a) {
		if lowerByte(a[i]) != lowerByte(b[i]) {
			return false
		}
	}
	return true
}

// Trim is one without blanks at its ends.
func Trim(s string) string {
	from, to := 0, len(s)
	for from < to && IsBlank(s[from]) {
		from++
	}
	for from < to && IsBlank(s[to-1]) {
		to--
	}
	return s[from:to]
}

// Words are its words.
func Words(s string) []string {
	var words []string
	from := 0
	for i := range len(s) {
		if !IsBlank(s[i]) {
			continue
		}
		if from < i {
			words = append(words, s[from:i])
		}
		from = i + 1
	}
	if from < len(s) {
		words = append(words, s[from:])
	}
	return words
}

// Squeeze are they with one blank between.
func Squeeze(s string) string { return Join(" ", Words(s)...) }

// Number is a text's number.
func Number(s string, most int64) (int64, api.Errno) {
	if !isNumber(s) {
		return 0, api.ErrForm
	}
	if most < 0 {
		return 0, api.ErrMany
	}
	var n int64
	for i := range len(s) {
		digit := int64(s[i] - '0')
		// Held against most ahead of the step, as the step itself could leave int64.
		if n > most/10 || n == most/10 && digit > most%10 {
			return 0, api.ErrMany
		}
		n = n*10 + digit
	}
	return n, api.OK
}

func isNumber(s string) bool {
	for i := range len(s) {
		if !IsDigit(s[i]) {
			return false
		}
	}
	return s != ""
}

// Text is a number's text.
func Text(n int64) string { return strconv.FormatInt(n, 10) }

// Pad is it with zeros ahead.
func Pad(n int64, size int) string {
	sign, digits := "", Text(n)
	if n < 0 {
		sign, digits = "-", digits[1:]
	}
	// Bounded on both sides ahead of the difference, as that could leave int.
	wanted := max(len(digits), min(size, maxPad))
	return sign + strings.Repeat("0", wanted-len(digits)) + digits
}

// Hex is a text's hex number.
func Hex(s string) (uint32, api.Errno) {
	if !isHex(s) {
		return 0, api.ErrForm
	}
	var n uint32
	for i := range len(s) {
		if n > math.MaxUint32>>4 {
			return 0, api.ErrMany
		}
		digit, _ := hexDigit(s[i])
		n = n<<4 | digit
	}
	return n, api.OK
}

func isHex(s string) bool {
	for i := range len(s) {
		if _, ok := hexDigit(s[i]); !ok {
			return false
		}
	}
	return s != ""
}

func hexDigit(c byte) (uint32, bool) {
	c = lowerByte(c)
	switch {
	case IsDigit(c):
		return uint32(c - '0'), true
	case 'a' <= c && c <= 'f':
		return uint32(c-'a') + 10, true
	}
	return 0, false
}

// Join joins parts.
func Join(sep string, parts ...string) string { return strings.Join(parts, sep) }

// Split splits a text.
func Split(s string, by byte) []string {
	var parts []string
	from := 0
	for i := range len(s) {
		if s[i] == by {
			parts = append(parts, s[from:i])
			from = i + 1
		}
	}
	return append(parts, s[from:])
}
