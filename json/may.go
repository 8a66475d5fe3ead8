package json

import (
	"slices"
	"strings"

	"cringle/api"
	"cringle/ascii"
	"cringle/utf"
)

// census counts the values that are met in one. It ends at the first that is too many, as lists that are shared may tell far more of them than lie in memory.
type census struct{ values int }

// mayBe tells whether a value may be that lies in so many others.
func (c *census) mayBe(v api.Val, deep int) bool {
	c.values++
	if c.values > maxValues {
		return false
	}
	switch v.Kind {
	case api.List:
		return v.Text == "" && len(v.Keys) == 0 && c.kidsMayBe(v, deep)
	case api.Table:
		return v.Text == "" && len(v.Keys) == len(v.Kids) && c.kidsMayBe(v, deep) && areKeys(v.Keys)
	}
	return len(v.Keys) == 0 && len(v.Kids) == 0 && isTextOf(v.Kind, v.Text)
}

func (c *census) kidsMayBe(v api.Val, deep int) bool {
	if deep >= api.MaxDeep {
		return false
	}
	for _, kid := range v.Kids {
		if !c.mayBe(kid, deep+1) {
			return false
		}
	}
	return true
}

func areKeys(all []string) bool {
	met := keys{}
	return !slices.ContainsFunc(all, func(key string) bool { return !utf.IsText(key) || !met.isNew(key) })
}

// isTextOf tells whether a text is one of a kind without kids.
func isTextOf(kind int, s string) bool {
	switch kind {
	case api.Null:
		return s == ""
	case api.Bool:
		return s == "true" || s == "false"
	case api.Num:
		size, whole := number(s)
		return whole && size == len(s)
	case api.Str:
		return utf.IsText(s)
	}
	return false
}

// number is how many bytes at the beginning of s are a number (whole), or such a one's beginning.
func number(s string) (size int, whole bool) {
	left, whole := integer(strings.TrimPrefix(s, "-"))
	if whole && startsWith(left, ".") {
		left, whole = digits(left[1:])
	}
	if whole && startsWith(left, "eE") {
		left = left[1:]
		if startsWith(left, "+-") {
			left = left[1:]
		}
		left, whole = digits(left)
	}
	return len(s) - len(left), whole
}

// integer is what stands behind the digits ahead of a point, and whether there are any. Behind a 0 no more of them may stand.
func integer(s string) (left string, some bool) {
	if startsWith(s, "0") {
		return s[1:], true
	}
	return digits(s)
}

// digits is what stands behind the digits that s begins with, and whether there are any.
func digits(s string) (left string, some bool) {
	left = s
	for left != "" && ascii.IsDigit(left[0]) {
		left = left[1:]
	}
	return left, len(left) < len(s)
}

// startsWith tells whether the first byte of s is one of these.
func startsWith(s, these string) bool { return s != "" && strings.IndexByte(these, s[0]) >= 0 }
