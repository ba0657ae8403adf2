package channel

import (
	"strings"

	"crumple/api"
	"crumple/check"
	"crumple/record"
)

// The bytes of a code after its place, and their number.
const (
	dash = iota
	axis
	sign
	letter
	tail
)

// The least and the greatest number of bytes of a code.
const (
	leastCode = 1 + tail
	mostCode  = api.MaxName + tail
)

// marks has all that may stand for each of the bytes after a place; the index of an axis, and of a check letter, is its number.
var marks = [tail]string{dash: "-", axis: "xyz", sign: "+-", letter: "ABCDEFGHIJKLMNOPQRSTUVWXYZ"}

// CheckCode returns the first error of a code, or OK.
func CheckCode(c Code) api.Errno {
	return check.First(
		check.When(!record.IsName(c.Place), api.ErrName),
		check.Within(c.Axis, 0, len(marks[axis])-1),
		check.When(c.Sign != 1 && c.Sign != -1, api.ErrRange),
	)
}

// Coded returns the string of a code.
func Coded(c Code) (string, api.Errno) {
	if e := CheckCode(c); e != api.OK {
		return "", e
	}
	return c.text(), api.OK
}

// text returns the string of a code whose axis and sign are right.
func (c Code) text() string {
	s := c.Place + mark(dash, 0) + mark(axis, c.Axis) + mark(sign, (1-c.Sign)/2)
	total := 0
	for i := range len(s) {
		total += int(s[i])
	}
	return s + mark(letter, total%len(marks[letter]))
}

// mark returns one of the marks for a byte after a place.
func mark(which, at int) string {
	return marks[which][at : at+1]
}

// Decoded returns the code of a string.
func Decoded(s string) (Code, api.Errno) {
	if len(s) > mostCode {
		return Code{}, api.ErrLong
	}
	if len(s) < leastCode {
		return Code{}, api.ErrSyntax
	}
	cut := len(s) - tail
	c, ok := readEnd(s[cut:])
	c.Place = s[:cut]
	e := check.First(
		check.When(!ok, api.ErrSyntax),
		check.When(!record.IsName(c.Place), api.ErrName),
		check.When(s != c.text(), api.ErrCheck),
	)
	if e != api.OK {
		return Code{}, e
	}
	return c, api.OK
}

// readEnd returns the axis and the sign of a code's last bytes, whose check letter may be any.
func readEnd(end string) (Code, bool) {
	var at [tail]int
	for i, c := range end {
		// What is no single byte is in no mark, so that no byte is left out.
		at[i] = strings.IndexRune(marks[i], c)
		if at[i] < 0 {
			return Code{}, false
		}
	}
	return Code{Axis: at[axis], Sign: 1 - 2*at[sign]}, true
}
