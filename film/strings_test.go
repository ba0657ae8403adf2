package film_test

import (
	"fmt"
	"strings"
	"testing"

	"crumple/api"
	"crumple/film"
)

// P5.4 (strings): both functions with ordinary inputs, at their limits, and with their errors in their order.

const earlierText = "mark a 0 0 0\nmark b 10 0 0\nmark c 0 5 0\nmark d 0 0 3\n"

func TestPrintAndParse(t *testing.T) {
	for _, x := range []struct {
		l []film.Mark
		s string
	}{
		{earlier(), earlierText}, {later(), "mark a 100 0 0\nmark b 100 10 0\nmark c 95 0 0\nmark d 100 0 1\n"},
		{[]film.Mark{mark("mark", 1, -2, 3), mark("A_9", -10000, 10000, -9999), mark("a_9", 0, -1, 0)}, "mark mark 1 -2 3\nmark A_9 -10000 10000 -9999\nmark a_9 0 -1 0\n"},
		{[]film.Mark{mark(longest, 0, 0, 0)}, "mark " + longest + " 0 0 0\n"},
	} {
		s, e := film.Print(x.l)
		wantOK(t, "Print", s, e, x.s)
		l, i, e := film.Parse(x.s)
		wantOK(t, "Parse", l, e, x.l)
		want(t, "the index of Parse", i, 0)
	}
}

func TestTheLongestSurveyIsParsed(t *testing.T) {
	var l []film.Mark
	for i := range film.MaxPoints {
		l = append(l, mark(fmt.Sprintf("%s%02d", longest[:22], i), -film.MaxPlace, -film.MaxPlace, -film.MaxPlace))
	}
	s, e := film.Print(l)
	want(t, "Print", e, api.OK)
	want(t, "the number of bytes", len(s), 16*len("mark xxxxxxxxxxxxxxxxxxxxxxxx -10000 -10000 -10000\n"))
	again, i, e := film.Parse(s)
	wantOK(t, "Parse", again, e, l)
	want(t, "the index of Parse", i, 0)
}

// wantParseError checks the error of a string, and its index.
func wantParseError(t *testing.T, s string, i int, e api.Errno) {
	t.Helper()
	what := fmt.Sprintf("Parse of %.99q", s)
	l, at, got := film.Parse(s)
	wantError(t, what, l, got, e)
	want(t, what+", the index", at, i)
}

func TestSyntaxErrors(t *testing.T) {
	for _, line := range []string{
		"\n", " \n", "mark\n", "mark \n", "mark a\n", "mark a 1\n", "mark a 1 2\n", "mark a 1 2 \n", "mark a 1 2 3", "mark a 1 2 3 \n", "mark a 1 2 3 4\n", " mark a 1 2 3\n",
		"Mark a 1 2 3\n", "marks a 1 2 3\n", "a 1 2 3\n", "mark 1 2 3\n", "mark  1 2 3\n", "mark  a 1 2 3\n", "mark a  1 2 3\n", "mark a 1  2 3\n", "mark a 1 2  3\n", "mark\ta 1 2 3\n", "mark a\t1 2 3\n", "mark a 1 2 3\r\n", "mark a 1 2\t3\n", "a mark 1 2 3\n",
		"mark a x 2 3\n", "mark a 1 x 3\n", "mark a 1 2 x\n", "mark a 01 2 3\n", "mark a 1 02 3\n", "mark a 1 2 03\n", "mark a -0 2 3\n", "mark a 1 -0 3\n", "mark a 1 2 -0\n", "mark a 00 2 3\n", "mark a 1 -02 3\n", "mark a 1 2 +3\n", "mark a - 2 3\n", "mark a 1 --2 3\n", "mark a 1 2 3-\n", "mark a 1 2 3.0\n", "mark a 1 2 0x3\n", "mark a 1 2 1_0\n", "mark a 1 2 1e1\n", "mark a 1 2 \u0663\n",
		"mark a 1000000000 2 3\n", "mark a 1 -1000000000 3\n", "mark a 1 2 0000000003\n", "mark a 1 2 99999999999999999999\n",
	} {
		wantParseError(t, line, 0, api.ErrSyntax)
		// What is before has an error that would come later, what is after is worse.
		wantParseError(t, "mark 9 10001 0 0\n"+earlierText+line+"\x00", 5, api.ErrSyntax)
	}
	wantParseError(t, strings.Repeat("mark a 1 2 3\n", 40)+"mark", 40, api.ErrSyntax)
	wantParseError(t, strings.Repeat("mark a 1 2 3\n", 40)+"\n", 40, api.ErrSyntax)
}

func TestErrorsOfSurveysThatAreParsed(t *testing.T) {
	const line = "mark a 1 2 3\n"
	for _, x := range []struct {
		s string
		i int
		e api.Errno
	}{
		{"", 0, api.ErrEmpty}, {strings.Repeat(line, 17), 17, api.ErrMany}, {strings.Repeat(line, 16), 16, api.ErrTwice}, {line + "mark b 0 0 0\nmark a 10001 0 0\n", 3, api.ErrTwice},
		{"mark 9 10001 0 0\n", 1, api.ErrName}, {line + "mark - 0 0 0\n" + line, 3, api.ErrName}, {"mark a\t 0 0 0\n", 1, api.ErrName}, {"mark \xff 0 0 0\n", 1, api.ErrName}, {"mark " + longest + "x 0 0 0\n", 1, api.ErrName}, {"mark a\r 0 0 0\n", 1, api.ErrName},
		{"mark a 10001 0 0\n", 1, api.ErrRange}, {"mark a 0 -10001 0\n", 1, api.ErrRange}, {"mark a 0 0 999999999\n", 1, api.ErrRange}, {line + "mark b -999999999 0 0\nmark 9 0 0 0\n", 3, api.ErrRange},
		{strings.Repeat("x", api.MaxText), 0, api.ErrSyntax}, {strings.Repeat("x", api.MaxText+1), 0, api.ErrLong}, {strings.Repeat(line, 400), 0, api.ErrLong},
	} {
		wantParseError(t, x.s, x.i, x.e)
	}
	// Just as many bytes as a string may have, and one more.
	many := strings.Repeat(line, api.MaxText/len(line))
	many = many[:len(many)-len(line)] + "mark " + strings.Repeat("a", api.MaxText-len(many)+1) + " 1 2 3\n"
	want(t, "the number of bytes", len(many), api.MaxText)
	wantParseError(t, many, strings.Count(many, "\n"), api.ErrMany)
	wantParseError(t, strings.Replace(many, "1", "10", 1), 0, api.ErrLong)
}
