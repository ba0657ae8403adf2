package dummy_test

import (
	"strings"
	"testing"

	"crumple/api"
	"crumple/dummy"
)

// P3.4 (strings): each function with ordinary inputs, at its limits, and with its errors in their order.

const figureText = "part pelvis - 20 0 0 0 0 10\npart chest pelvis 15 0 0 40 50 60 5 5\npart head chest 5 2 0 30 100 120\n"

func TestPrintAndParse(t *testing.T) {
	for _, x := range []struct {
		l []dummy.Part
		s string
	}{
		{figure(), figureText},
		{[]dummy.Part{part("a", "", 100000, at(-10000, 10000, -1), to(-1000000, 1000000), to(-1, -1), to(0, 0))}, "part a - 100000 -10000 10000 -1 -1000000 1000000 -1 -1 0 0\n"},
		{[]dummy.Part{part("part", "", 1, at(0, 0, 0), to(0, 0)), part("b", "part", 1, at(0, 0, 0), to(0, 0)), part("A", "part", 1, at(0, 0, 0), to(0, 0))}, "part part - 1 0 0 0 0 0\npart b part 1 0 0 0 0 0\npart A part 1 0 0 0 0 0\n"},
	} {
		s, e := dummy.Print(x.l)
		wantOK(t, "Print", s, e, x.s)
		l, i, e := dummy.Parse(x.s)
		wantOK(t, "Parse", l, e, x.l)
		want(t, "the index of Parse", i, 0)
	}
	for _, bad := range badParts() {
		s, e := dummy.Print(bad.x)
		wantError(t, "Print", s, e, bad.e)
	}
}

func TestTheLongestPartsAreParsed(t *testing.T) {
	l := full().Parts
	for i := range l {
		l[i].Name = longest[:20] + l[i].Name
		if i > 0 {
			l[i].Parent = l[i-1].Name
		}
	}
	s, e := dummy.Print(l)
	want(t, "Print", e, api.OK)
	again, i, e := dummy.Parse(s)
	wantOK(t, "Parse", again, e, l)
	want(t, "the index of Parse", i, 0)
}

func TestSyntaxErrors(t *testing.T) {
	for _, line := range []string{
		"\n", " \n", "part\n", "part a\n", "part a -\n", "part a - 1\n", "part a - 1 0 0\n", "part a - 1 0 0 0 0 1", "part a - 1 0 0 0 0\n", "part a - 1 0 0 0 0 1 2\n",
		"Part a - 1 0 0 0 0 1\n", "parts a - 1 0 0 0 0 1\n", "a - 1 0 0 0 0 1\n", " part a - 1 0 0 0 0 1\n", "part a - 1 0 0 0 0 1 \n", "part  a - 1 0 0 0 0 1\n", "part  - 1 0 0 0 0 1\n", "part a  1 0 0 0 0 1\n", "part a - 1 0 0 0  0 1\n", "part a - 1 0 0 0 0  1\n", "part\ta - 1 0 0 0 0 1\n", "part a - 1 0 0 0 0 1\r\n",
		"part a - x 0 0 0 0 1\n", "part a - 01 0 0 0 0 1\n", "part a - 1 00 0 0 0 1\n", "part a - 1 0 -0 0 0 1\n", "part a - 1 0 0 +1 0 1\n", "part a - 1 0 0 0 -01 1\n", "part a - 1 0 0 0 0 --1\n", "part a - 1 0 0 0 - 1\n", "part a - 1 0 0 0 0 1000000000\n", "part a - -1000000000 0 0 0 0 1\n", "part a - 1 0 0 0 0 1-\n", "part a - 1 0 0 0 0 0x1\n", "part a - 1 0 0 0 0 1_0\n", "part a - 1 0 0 0 0 \u0663\n", "part a - 1.0 0 0 0 0 1\n",
	} {
		l, i, e := dummy.Parse(line)
		wantError(t, "Parse of "+line, l, e, api.ErrSyntax)
		want(t, "the index of Parse of "+line, i, 0)
		// What is before has an error that would come later, what is after is worse.
		l, i, e = dummy.Parse("part 9 none 0 0 0 0\n" + figureText + line + "\x00")
		wantError(t, "Parse of further lines, and "+line, l, e, api.ErrSyntax)
		want(t, "the index of Parse of further lines, and "+line, i, 4)
	}
	l, i, e := dummy.Parse(strings.Repeat("part a - 0 0 0 0\n", 20) + "part")
	wantError(t, "Parse of many lines", l, e, api.ErrSyntax)
	want(t, "the index of Parse of many lines", i, 20)
}

func TestErrorsOfPartsThatAreParsed(t *testing.T) {
	const root = "part a - 1 0 0 0 0 1\n"
	for _, x := range []struct {
		s string
		i int
		e api.Errno
	}{
		{"", 0, api.ErrEmpty}, {strings.Repeat(root, 17), 17, api.ErrMany}, {strings.Repeat(root, 16), 16, api.ErrTwice},
		{"part - - 1 0 0 0 0 1\n", 1, api.ErrName}, {"part 9 9 0 0 0 0\n" + root, 2, api.ErrName}, {"part a\t - 1 0 0 0 0 1\n", 1, api.ErrName}, {"part \xff \xff 1 0 0 0 0 1\n", 1, api.ErrName}, {"part " + longest + "x - 1 0 0 0 0 1\n", 1, api.ErrName},
		{"part a a 1 0 0 0 0 1\n", 1, api.ErrConflict}, {"part a -- 1 0 0 0 0 1\n", 1, api.ErrConflict}, {"part a \t 1 0 0 0 0 1\n", 1, api.ErrConflict},
		{root + "part b - 1 0 0 0 0 1\n", 2, api.ErrUnknown}, {root + "part b b 1 0 0 0 0 1\n", 2, api.ErrUnknown}, {root + "part b c 1 0 0 0 0 1\npart c a 1 0 0 0 0 1\n", 3, api.ErrUnknown},
		{"part a - 0 0 0 0 0 1\n", 1, api.ErrRange}, {"part a - -1 0 0 0 0 1\n", 1, api.ErrRange}, {"part a - 999999999 0 0 0 0 1\n", 1, api.ErrRange}, {"part a - 1 10001 0 0 0 1\n", 1, api.ErrRange}, {"part a - 1 0 -999999999 0 0 1\n", 1, api.ErrRange}, {"part a - 1 0 0 10001 0 1\n", 1, api.ErrRange},
		{"part a - 1 0 0 0\n", 1, api.ErrEmpty}, {"part a - 1 0 0 0" + strings.Repeat(" 1 0", 9) + "\n", 1, api.ErrMany},
		{"part a - 1 0 0 0 -1000001 0\n", 1, api.ErrRange}, {"part a - 1 0 0 0 0 1000001\n", 1, api.ErrRange}, {"part a - 1 0 0 0 0 1 1 0\n" + root, 2, api.ErrOrder},
		{strings.Repeat("x", api.MaxText), 0, api.ErrSyntax}, {strings.Repeat("x", api.MaxText+1), 0, api.ErrLong}, {strings.Repeat(root, 200), 0, api.ErrLong},
	} {
		l, i, e := dummy.Parse(x.s)
		wantError(t, "Parse of "+x.s, l, e, x.e)
		want(t, "the index of Parse of "+x.s, i, x.i)
	}
	// A line of just as many bytes as a string may have, and one of one more.
	for mass, wanted := range map[string]api.Errno{"1000": api.ErrMany, "10000": api.ErrLong} {
		line := "part a - " + mass + " 0 0 0" + strings.Repeat(" 0 1", 1019) + "\n"
		want(t, "whether the string is too long", len(line) > api.MaxText, wanted == api.ErrLong)
		l, _, e := dummy.Parse(line)
		wantError(t, "Parse of a long line", l, e, wanted)
	}
}
