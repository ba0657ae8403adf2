// Package lines reads and writes strings of lines: words that are separated by one space, with a line feed at the end.
package lines

import (
	"strings"

	"crumple/api"
)

// maxDigits is the most digits of an integer, where a chapter does not name more.
const maxDigits = 9

// Words is the words of a line that are not yet taken, the index of the line, and whether a word that was taken is not as it was asked for.
type Words struct {
	left  []string
	at    int
	wrong bool
}

// Line returns a line with some words.
func Line(words ...string) string {
	return strings.Join(words, " ") + "\n"
}

// Parsed returns what is read of each line; for the first line that is wrong its index, and ErrSyntax; ErrLong for too long a string.
func Parsed[A any](s string, read func(*Words) A) ([]A, int, api.Errno) {
	if len(s) > api.MaxText {
		return nil, 0, api.ErrLong
	}
	var l []A
	for i, line := range split(s) {
		text, ended := strings.CutSuffix(line, "\n")
		x, e := readAt(text, i, read)
		if !ended || e != api.OK {
			return nil, i, api.ErrSyntax
		}
		l = append(l, x)
	}
	return l, 0, api.OK
}

// Read returns what is read of one line without its line feed; ErrSyntax if it is wrong.
func Read[A any](text string, read func(*Words) A) (A, api.Errno) {
	return readAt(text, 0, read)
}

// readAt returns what is read of the line with an index; ErrSyntax if it is wrong, or not all of its words were taken.
func readAt[A any](text string, at int, read func(*Words) A) (A, api.Errno) {
	w := Words{left: strings.Split(text, " "), at: at}
	x := read(&w)
	if w.wrong || len(w.left) > 0 {
		var none A
		return none, api.ErrSyntax
	}
	return x, api.OK
}

// Checked returns what is read of each line, as Parsed does; for a list with an error the number of lines, and this error.
func Checked[A any](s string, read func(*Words) A, check func([]A) api.Errno) ([]A, int, api.Errno) {
	l, at, e := Parsed(s, read)
	if e != api.OK {
		return nil, at, e
	}
	if e := check(l); e != api.OK {
		return nil, len(l), e
	}
	return l, 0, api.OK
}

// split returns the lines of a string, each with its line feed, if it has one.
func split(s string) []string {
	l := strings.SplitAfter(s, "\n")
	if last := len(l) - 1; l[last] == "" {
		return l[:last]
	}
	return l
}

// At returns the index of the line.
func (w *Words) At() int {
	return w.at
}

// Key takes the next word, which must be this one.
func (w *Words) Key(key string) {
	if w.Word() != key {
		w.wrong = true
	}
}

// Reject says that the line is wrong.
func (w *Words) Reject() {
	w.wrong = true
}

// Word takes the next word, of at least one byte; a line without one is wrong.
func (w *Words) Word() string {
	if len(w.left) == 0 || w.left[0] == "" {
		w.wrong = true
		return ""
	}
	word := w.left[0]
	w.left = w.left[1:]
	return word
}

// More reports whether words are left; on a line that is wrong they do not count.
func (w *Words) More() bool {
	return !w.wrong && len(w.left) > 0
}

// Integer takes the next word, which must be digits as Natural takes them, with or without - in front, but not -0.
func (w *Words) Integer() int {
	if len(w.left) == 0 {
		return w.Natural()
	}
	digits, negative := strings.CutPrefix(w.left[0], "-")
	if !negative {
		return w.Natural()
	}
	w.left[0] = digits
	number := w.Natural()
	w.wrong = w.wrong || number == 0
	return -number
}

// Natural takes the next word, which must be digits as Digits takes them, at most maxDigits.
func (w *Words) Natural() int {
	return w.Digits(maxDigits)
}

// Digits takes the next word, which must be digits alone, at most some, without leading zeros.
func (w *Words) Digits(most int) int {
	digits := w.Word()
	if len(digits) > most || digits != "0" && strings.HasPrefix(digits, "0") {
		w.wrong = true
		return 0
	}
	number := 0
	for _, c := range digits {
		if c < '0' || c > '9' {
			w.wrong = true
			return 0
		}
		number = 10*number + int(c-'0')
	}
	return number
}
