package garage_test

import (
	"fmt"
	"slices"
	"strings"
	"testing"

	"crumple/api"
	"crumple/garage"
)

// P9.4 (strings): both functions with ordinary inputs, at their limits, and with their errors in their order; acts_test.go has the errors of acts that Print returns.

const actsText = "open 1 0\nenter 2 0\ninsert 3 0\ninsert 3 1\nleave 4 0\nclose 5 0\narm 6\nshoot 8\n"

// parsed is acts with an index, as Parse returns both.
type parsed = pair[[]garage.Act, int]

func TestPrintAndParse(t *testing.T) {
	for _, x := range []struct {
		h garage.Hall
		l []garage.Act
		s string
	}{
		{hall(), nil, ""}, {hall(), acts(), actsText}, {hall(), then(acts(), act("measure", 12, 50, 0, 7), act("remove", 12, 1)), actsText + "measure 12 50 0 7\nremove 12 1\n"}, {hall(), then(acts()[:7], act("disarm", 7)), strings.Replace(actsText, "shoot 8", "disarm 7", 1)},
		{hall(), then(acts(), act("measure", api.MaxTick, garage.MaxMeasure, 0, garage.MaxMeasure)), actsText + "measure 100000000 100000 0 100000\n"}, {greatest(), []garage.Act{act("open", 0, 7), act("enter", 0, 7), act("leave", api.MaxTick, 7), act("close", api.MaxTick, 7)}, "open 0 7\nenter 0 7\nleave 100000000 7\nclose 100000000 7\n"},
		{noWaits(), shooting(2), "insert 0 0\ninsert 0 1\narm 0\nshoot 0\nmeasure 0 0 0 0\narm 0\nshoot 0\nmeasure 0 0 0 0\n"},
	} {
		s, e := garage.Print(x.h, x.l)
		wantOK(t, "Print", s, e, x.s)
		l, i, e := garage.Parse(x.h, x.s)
		wantOK(t, "Parse", parsed{l, i}, e, parsed{x.l, 0})
	}
}

func TestTheLongestStrings(t *testing.T) {
	// A line of a key has 11 bytes, from the tick 10 on 12.
	fit := append(turning(368, 9), turning(4, 10)...)
	s, e := garage.Print(hall(), fit)
	want(t, "Print of as many bytes as there may be", e, api.OK)
	want(t, "how many", len(s), api.MaxText)
	l, i, e := garage.Parse(hall(), s)
	wantOK(t, "Parse of it", parsed{l, i}, e, parsed{fit, 0})
	oneMore := then(turning(368, 9), append(turning(3, 10), act("remove", 100, 1))...)
	for _, l := range [][]garage.Act{oneMore, turning(374, 0), turning(api.MaxEvents, 9)} {
		s, e := garage.Print(hall(), l)
		wantError(t, fmt.Sprintf("Print of %d acts", len(l)), s, e, api.ErrLong)
	}
	for _, s := range []string{s + "\n", s + "x", strings.Replace(s, "insert", "inserts", 1), strings.Repeat("x", api.MaxText+1), strings.Repeat("open 0 0\n", 5000)} {
		wantParseError(t, hall(), s, 0, api.ErrLong)
	}
	wantParseError(t, hall(), strings.Repeat("x", api.MaxText), 0, api.ErrSyntax)
	// An act that is not permitted comes first.
	s, e = garage.Print(hall(), append(turning(api.MaxEvents-1, 3), act("insert", 3, 1)))
	wantError(t, "Print of 1000 acts of which one is not permitted", s, e, api.ErrRule)
	// The shortest lines are no more than acts may be.
	wantParseError(t, hall(), strings.Repeat("arm 0\n", 682), 0, api.ErrRule)
}

// wantParseError checks the error and the index of Parse.
func wantParseError(t *testing.T, h garage.Hall, s string, index int, wanted api.Errno) {
	t.Helper()
	l, i, e := garage.Parse(h, s)
	what := fmt.Sprintf("Parse of %q", s[:min(len(s), 199)])
	wantError(t, what, l, e, wanted)
	want(t, what+", the index", i, index)
}

// wrongLines are lines that are none.
func wrongLines() []string {
	l := []string{
		"\n", " \n", "x", "open 1 0", "open 1 0\r\n", " open 1 0\n", "open 1 0 \n", "open  1 0\n", "open 1  0\n", "open\t1 0\n", "open1 0\n", "1 0\n", "1 open 0\n", "1 0 open\n", "open open 0\n", "open 1 open\n", "Open 1 0\n", "OPEN 1 0\n", "opens 1 0\n", "ope 1 0\n", "shut 1 0\n", "open-1 0\n", "open 1 0\x00\n", "\x00\n", "tick 1\n", "wait 1\n",
		// Too few integers, or too many.
		"open\n", "open \n", "open 1\n", "open 1 \n", "open 1 0 0\n", "close 1\n", "insert 1\n", "remove 1 0 0 0\n", "enter 1\n", "leave 1\n", "arm\n", "arm \n", "arm 1 0\n", "arm 1 0 0 0\n", "disarm\n", "disarm 1 0\n", "shoot 1 0\n", "shoot\n", "measure 1\n", "measure 1 0\n", "measure 1 0 0\n", "measure 1 0 0 \n", "measure 1 0 0 0 0\n", "measure\n",
	}
	for _, number := range []string{"x", "01", "00", "-1", "-0", "+1", "1.0", "0x1", "1_0", "1e1", "\u0663", "-", "1000000000", "0000000001", "99999999999999999999", "18446744073709551617"} {
		l = append(l, "open "+number+" 0\n", "open 1 "+number+"\n", "insert 1 "+number+"\n", "arm "+number+"\n", "shoot "+number+"\n", "measure "+number+" 0 0 0\n", "measure 1 "+number+" 0 0\n", "measure 1 0 "+number+" 0\n", "measure 1 0 0 "+number+"\n")
	}
	return l
}

func TestLinesThatAreWrong(t *testing.T) {
	for _, line := range wrongLines() {
		wantParseError(t, hall(), line, 0, api.ErrSyntax)
		wantParseError(t, hall(), actsText+line, 8, api.ErrSyntax)
		// What is before has errors that would come later, what is after is worse.
		wantParseError(t, hall(), "close 3 9\nclose 3 0\n"+line+"\x00", 2, api.ErrSyntax)
	}
	wantParseError(t, hall(), strings.TrimSuffix(actsText, "\n"), 7, api.ErrSyntax)
	wantParseError(t, hall(), actsText+"\n", 8, api.ErrSyntax)
	wantParseError(t, hall(), strings.Repeat("open 1 0\n", 40)+"open", 40, api.ErrSyntax)
}

func TestErrorsOfActsThatAreParsed(t *testing.T) {
	for _, x := range []struct {
		s string
		i int
		e api.Errno
	}{
		// The error of acts has the number of lines, that of an act that is not permitted its index.
		{"open 100000001 0\n", 1, api.ErrRange}, {"open 999999999 9\n", 1, api.ErrRange}, {"open 1 2\n", 1, api.ErrUnknown}, {"insert 1 2\n", 1, api.ErrUnknown}, {"measure 1 100001 0 0\n", 1, api.ErrRange}, {"measure 1 0 0 999999999\n", 1, api.ErrRange}, {actsText + "open 9 2\n", 9, api.ErrUnknown}, {actsText + "measure 9 0 100001 0\nopen 9 2\n", 10, api.ErrRange}, {"open 9 2\nclose 0 0\nmeasure 9 0 100001 0\n", 3, api.ErrUnknown}, {"close 0 0\narm 100000001\n", 2, api.ErrRange},
		{"close 0 0\n", 0, api.ErrRule}, {"open 3 0\nopen 3 0\n", 1, api.ErrRule}, {"open 3 0\nopen 2 1\n", 1, api.ErrRule}, {actsText + "shoot 8\n", 8, api.ErrRule}, {actsText + "arm 100000000\n" + actsText, 8, api.ErrRule}, {strings.Replace(actsText, "leave 4 0\n", "", 1), 5, api.ErrRule}, {actsText + actsText, 8, api.ErrRule}, {actsText + "measure 12 50 0 0\nopen 41 0\n", 9, api.ErrRule},
	} {
		wantParseError(t, hall(), x.s, x.i, x.e)
	}
	for _, b := range badHalls() {
		for _, s := range []string{"", actsText, "\n", "open 1 9\n", "close 1 0\n", strings.Repeat("x", api.MaxText+1)} {
			wantParseError(t, b.x, s, 0, b.e)
		}
	}
	// A door that one hall has, another one has not.
	three := hall()
	three.Doors = 3
	l, i, e := garage.Parse(three, "open 1 2\n")
	wantOK(t, "Parse of the third door", parsed{l, i}, e, parsed{[]garage.Act{act("open", 1, 2)}, 0})
}

func TestStringsByTheDefinition(t *testing.T) {
	r := dice(6)
	for range 1000 {
		h := someHall(r)
		l := someActs(r, h, between(r, 0, 60))
		wanted := ""
		for _, a := range l {
			words := []string{a.Kind, fmt.Sprint(a.Tick)}
			if slices.Index(kinds, a.Kind) < 6 {
				words = append(words, fmt.Sprint(a.Number))
			}
			if a.Kind == "measure" {
				words = append(words, strings.Trim(fmt.Sprint(a.Values), "[]"))
			}
			wanted += strings.Join(words, " ") + "\n"
		}
		s, e := garage.Print(h, l)
		wantOK(t, fmt.Sprintf("Print of %v", l), s, e, wanted)
	}
}
