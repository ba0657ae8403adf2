package lines_test

import (
	"fmt"
	"strings"
	"testing"

	"crumple/api"
	"crumple/lines"
)

type pair struct {
	word   string
	number int
}

// readPair reads a line with the word pair, another word, and a number.
func readPair(w *lines.Words) pair {
	w.Key("pair")
	word := w.Word()
	return pair{word: word, number: w.Natural()}
}

func TestLine(t *testing.T) {
	if s := lines.Line("pair", "a", "1"); s != "pair a 1\n" {
		t.Errorf("Line: got %q", s)
	}
}

func TestParsed(t *testing.T) {
	for _, x := range []struct {
		s  string
		l  []pair
		at int
		e  api.Errno
	}{
		{"", nil, 0, api.OK},
		{"pair a 0\npair - 999999999\n", []pair{{"a", 0}, {"-", 999999999}}, 0, api.OK},
		{"pair a 1", nil, 0, api.ErrSyntax}, {"\n", nil, 0, api.ErrSyntax}, {"pair\n", nil, 0, api.ErrSyntax}, {"pair a\n", nil, 0, api.ErrSyntax},
		{"pair a 1\npair  1\n", nil, 1, api.ErrSyntax}, {"pair a 1\npair a 1 \n", nil, 1, api.ErrSyntax}, {"pair a 1\nPair a 1\n", nil, 1, api.ErrSyntax}, {"pair a 1\n\n", nil, 1, api.ErrSyntax}, {"pair a 1\npair a 1 1\n", nil, 1, api.ErrSyntax},
		{"pair a 00\n", nil, 0, api.ErrSyntax}, {"pair a 01\n", nil, 0, api.ErrSyntax}, {"pair a -1\n", nil, 0, api.ErrSyntax}, {"pair a +1\n", nil, 0, api.ErrSyntax}, {"pair a 1000000000\n", nil, 0, api.ErrSyntax}, {"pair a 1x\n", nil, 0, api.ErrSyntax}, {"pair a 1\r\n", nil, 0, api.ErrSyntax},
		{strings.Repeat("\n", api.MaxText), nil, 0, api.ErrSyntax}, {strings.Repeat("\n", api.MaxText+1), nil, 0, api.ErrLong},
	} {
		l, at, e := lines.Parsed(x.s, readPair)
		if got, wanted := fmt.Sprint(l, at, e), fmt.Sprint(x.l, x.at, x.e); got != wanted {
			t.Errorf("Parsed of %q: got %s, want %s", x.s, got, wanted)
		}
	}
}

// readAll reads a line of integers alone.
func readAll(w *lines.Words) []int {
	var l []int
	for w.More() {
		l = append(l, w.Integer())
	}
	return l
}

func TestIntegersToTheEndOfALine(t *testing.T) {
	for _, x := range []struct {
		s string
		l [][]int
		e api.Errno
	}{
		{"0\n", [][]int{{0}}, api.OK}, {"-1 2 -999999999 999999999 0\n7\n", [][]int{{-1, 2, -999999999, 999999999, 0}, {7}}, api.OK},
		{"-0\n", nil, api.ErrSyntax}, {"-\n", nil, api.ErrSyntax}, {"--1\n", nil, api.ErrSyntax}, {"-01\n", nil, api.ErrSyntax}, {"00\n", nil, api.ErrSyntax}, {"+1\n", nil, api.ErrSyntax}, {"-1000000000\n", nil, api.ErrSyntax}, {"1-\n", nil, api.ErrSyntax}, {"-x\n", nil, api.ErrSyntax},
		{"\n", nil, api.ErrSyntax}, {"1  2\n", nil, api.ErrSyntax}, {"1 \n", nil, api.ErrSyntax}, {" 1\n", nil, api.ErrSyntax}, {"1", nil, api.ErrSyntax},
	} {
		l, at, e := lines.Parsed(x.s, readAll)
		if got, wanted := fmt.Sprint(l, at, e), fmt.Sprint(x.l, 0, x.e); got != wanted {
			t.Errorf("Parsed of %q: got %s, want %s", x.s, got, wanted)
		}
	}
}

func TestIntegerOfNoWord(t *testing.T) {
	_, _, e := lines.Parsed("1\n", func(w *lines.Words) int { return w.Integer() + w.Integer() })
	if e != api.ErrSyntax {
		t.Errorf("Parsed of one word for two integers: got %d", e)
	}
}

func TestDigitsOfSomeLength(t *testing.T) {
	for _, x := range []struct {
		s    string
		most int
		l    []int
		e    api.Errno
	}{
		{"0\n", 1, []int{0}, api.OK}, {"9\n10\n", 2, []int{9, 10}, api.OK}, {"9999999999999\n", 13, []int{9999999999999}, api.OK},
		{"10\n", 1, nil, api.ErrSyntax}, {"10000000000000\n", 13, nil, api.ErrSyntax}, {"00\n", 13, nil, api.ErrSyntax}, {"0000000000001\n", 13, nil, api.ErrSyntax}, {"-1\n", 13, nil, api.ErrSyntax}, {"\n", 13, nil, api.ErrSyntax},
	} {
		l, at, e := lines.Parsed(x.s, func(w *lines.Words) int { return w.Digits(x.most) })
		if got, wanted := fmt.Sprint(l, at, e), fmt.Sprint(x.l, 0, x.e); got != wanted {
			t.Errorf("Parsed of %q with %d digits: got %s, want %s", x.s, x.most, got, wanted)
		}
	}
}

func TestChecked(t *testing.T) {
	most := func(l []pair) api.Errno {
		if len(l) > 2 {
			return api.ErrMany
		}
		return api.OK
	}
	for _, x := range []struct {
		s  string
		l  []pair
		at int
		e  api.Errno
	}{
		{"", nil, 0, api.OK}, {"pair a 1\npair b 2\n", []pair{{"a", 1}, {"b", 2}}, 0, api.OK},
		{"pair a 1\npair a 1\npair a 1\n", nil, 3, api.ErrMany}, {"pair a 1\npair a 1\npair a\npair", nil, 2, api.ErrSyntax}, {strings.Repeat("\n", api.MaxText+1), nil, 0, api.ErrLong},
	} {
		l, at, e := lines.Checked(x.s, readPair, most)
		if got, wanted := fmt.Sprint(l, at, e), fmt.Sprint(x.l, x.at, x.e); got != wanted {
			t.Errorf("Checked of %q: got %s, want %s", x.s, got, wanted)
		}
	}
}

func TestFormsByTheIndexOfALine(t *testing.T) {
	heads := []string{"first", "second"}
	read := func(w *lines.Words) int {
		w.Key(heads[min(w.At(), 1)])
		return w.At()
	}
	for _, x := range []struct {
		s  string
		l  []int
		at int
		e  api.Errno
	}{
		{"first\n", []int{0}, 0, api.OK}, {"first\nsecond\nsecond\n", []int{0, 1, 2}, 0, api.OK},
		{"second\n", nil, 0, api.ErrSyntax}, {"first\nfirst\n", nil, 1, api.ErrSyntax}, {"first\nsecond\nfirst\n", nil, 2, api.ErrSyntax},
	} {
		l, at, e := lines.Parsed(x.s, read)
		if got, wanted := fmt.Sprint(l, at, e), fmt.Sprint(x.l, x.at, x.e); got != wanted {
			t.Errorf("Parsed of %q: got %s, want %s", x.s, got, wanted)
		}
	}
}

func TestReject(t *testing.T) {
	// A line is - alone, or + with a number; all other first words are rejected.
	read := func(w *lines.Words) int {
		switch w.Word() {
		case "-":
			return 0
		case "+":
			return w.Natural()
		}
		w.Reject()
		return 0
	}
	for _, x := range []struct {
		s  string
		l  []int
		at int
		e  api.Errno
	}{
		{"+ 7\n-\n", []int{7, 0}, 0, api.OK}, {"*\n", nil, 0, api.ErrSyntax}, {"* 7\n", nil, 0, api.ErrSyntax}, {"-\n*\n-\n", nil, 1, api.ErrSyntax},
	} {
		l, at, e := lines.Parsed(x.s, read)
		if got, wanted := fmt.Sprint(l, at, e), fmt.Sprint(x.l, x.at, x.e); got != wanted {
			t.Errorf("Parsed of %q: got %s, want %s", x.s, got, wanted)
		}
	}
}

func TestRead(t *testing.T) {
	for _, x := range []struct {
		s string
		p pair
		e api.Errno
	}{
		{"pair a 1", pair{"a", 1}, api.OK}, {"pair # 999999999", pair{"#", 999999999}, api.OK}, {"pair a\nb 0", pair{"a\nb", 0}, api.OK},
		{"", pair{}, api.ErrSyntax}, {"pair", pair{}, api.ErrSyntax}, {"pair a", pair{}, api.ErrSyntax}, {"pair a 1\n", pair{}, api.ErrSyntax}, {"pair a 1 ", pair{}, api.ErrSyntax}, {"pair a 1 1", pair{}, api.ErrSyntax}, {" pair a 1", pair{}, api.ErrSyntax}, {"pair  a 1", pair{}, api.ErrSyntax}, {"Pair a 1", pair{}, api.ErrSyntax}, {"pair a 01", pair{}, api.ErrSyntax},
	} {
		if p, e := lines.Read(x.s, readPair); p != x.p || e != x.e {
			t.Errorf("Read of %q: got %v, %d, want %v, %d", x.s, p, e, x.p, x.e)
		}
	}
	// A line is as long as its caller permits.
	if p, e := lines.Read("pair "+strings.Repeat("a", 2*api.MaxText)+" 1", readPair); e != api.OK || len(p.word) != 2*api.MaxText {
		t.Errorf("Read of a long line: got %d", e)
	}
}
