package barrier_test

import (
	"fmt"
	"strings"
	"testing"

	"crumple/api"
	"crumple/barrier"
)

// P4.4 (strings): each function with ordinary inputs, at its limits, and with its errors in their order.

const (
	head      = "wall 6\nfriction 1 2\nbrake 6 8\n"
	trackText = head + "pull 10\npull 10\npull 10\npull 0\npull 0\npull 0\n"
)

func TestPrintAndParse(t *testing.T) {
	for _, x := range []struct {
		t barrier.Tow
		s string
	}{
		{track(), trackText},
		{barrier.Tow{Pull: []int{0}, Wall: 1}, "wall 1\nfriction 0 0\nbrake 0 0\npull 0\n"},
		{barrier.Tow{Pull: []int{1, 22, 333, 100000}, Friction: to(0, 100000), Brake: to(99999, 100000), Wall: 2}, "wall 2\nfriction 0 100000\nbrake 99999 100000\npull 1\npull 22\npull 333\npull 100000\n"},
		{longTrack(), "wall 64\nfriction 0 100000\nbrake 0 100000\n" + strings.Repeat("pull 100000\n", 64)},
	} {
		s, e := barrier.Print(x.t)
		wantOK(t, "Print", s, e, x.s)
		tow, i, e := barrier.Parse(x.s)
		wantOK(t, "Parse", tow, e, x.t)
		want(t, "the index of Parse", i, 0)
	}
}

// wantParseError checks the error of a string, and its index.
func wantParseError(t *testing.T, s string, i int, e api.Errno) {
	t.Helper()
	what := fmt.Sprintf("Parse of %.99q", s)
	tow, at, got := barrier.Parse(s)
	wantError(t, what, tow, got, e)
	want(t, what+", the index", at, i)
}

func TestSyntaxErrors(t *testing.T) {
	good := []string{"wall 6\n", "friction 1 2\n", "brake 6 8\n", "pull 10\n", "pull 10\n"}
	for i, line := range good {
		text := strings.TrimSuffix(line, "\n")
		word, numbers, _ := strings.Cut(text, " ")
		for _, bad := range []string{
			"\n", " \n", word + "\n", word + " \n", text + " \n", text + " 1\n", " " + line, word + "  " + numbers + "\n", word + "\t" + numbers + "\n", text + "\r\n", numbers + "\n", numbers + " " + word + "\n",
			strings.ToUpper(line), "x" + line, word + "s " + numbers + "\n", word + ":" + numbers + "\n",
			text + "x\n", text + ".0\n", word + " x" + numbers + "\n", word + " 0" + numbers + "\n", word + " -" + numbers + "\n", word + " +" + numbers + "\n", word + " 0x" + numbers + "\n", word + " \u0663" + numbers + "\n", word + " 1000000000" + strings.Repeat(" 1", strings.Count(numbers, " ")) + "\n", word + " 00" + strings.Repeat(" 1", strings.Count(numbers, " ")) + "\n", word + " -0" + strings.Repeat(" 1", strings.Count(numbers, " ")) + "\n",
		} {
			// The lines before have an error that would come later, what is after is worse.
			before := strings.Join([]string{"wall 99\n", "friction 2 1\n", "brake 999999999 0\n", "pull 999999999\n"}[:min(i, 4)], "")
			wantParseError(t, before+bad+"\x00", i, api.ErrSyntax)
			wantParseError(t, strings.Join(good[:i], "")+bad+strings.Join(good[i+1:], ""), i, api.ErrSyntax)
		}
		wantParseError(t, strings.Join(good[:i], "")+text, i, api.ErrSyntax)
		// Each line has its place.
		for j, other := range good {
			if min(i, 3) != min(j, 3) {
				wantParseError(t, strings.Join(good[:i], "")+other, i, api.ErrSyntax)
			}
		}
	}
	wantParseError(t, "friction 1\n", 0, api.ErrSyntax)
	wantParseError(t, "wall 6\nfriction 1\n", 1, api.ErrSyntax)
	wantParseError(t, "wall 6\nfriction 1 2\nbrake 1 02\n", 2, api.ErrSyntax)
	wantParseError(t, head+strings.Repeat("pull 1\n", 99)+"pull", 102, api.ErrSyntax)
}

func TestTooFewLines(t *testing.T) {
	wantParseError(t, "", 0, api.ErrSyntax)
	wantParseError(t, "wall 6\n", 1, api.ErrSyntax)
	wantParseError(t, "wall 0\nfriction 2 1\n", 2, api.ErrSyntax)
	wantParseError(t, head, 3, api.ErrEmpty)
}

func TestErrorsOfTowsThatAreParsed(t *testing.T) {
	const pulls = "pull 1\npull 2\n"
	for _, x := range []struct {
		s string
		i int
		e api.Errno
	}{
		{head + strings.Repeat("pull 999999999\n", 65), 68, api.ErrMany}, {head + strings.Repeat("pull 1\n", 5), 8, api.ErrRange}, {head + strings.Repeat("pull 1\n", 6), 0, api.OK},
		{head + "pull 100001\n", 4, api.ErrRange}, {"wall 1\nfriction 2 1\nbrake 0 0\npull 100001\n", 4, api.ErrRange},
		{"wall 1\nfriction 100001 0\nbrake 1 0\n" + pulls, 5, api.ErrRange}, {"wall 1\nfriction 0 999999999\nbrake 1 0\n" + pulls, 5, api.ErrRange}, {"wall 0\nfriction 2 1\nbrake 0 100001\n" + pulls, 5, api.ErrOrder}, {"wall 0\nfriction 1 2\nbrake 100001 0\n" + pulls, 5, api.ErrRange}, {"wall 0\nfriction 1 2\nbrake 1 0\n" + pulls, 5, api.ErrOrder},
		{"wall 0\nfriction 1 2\nbrake 0 0\n" + pulls, 5, api.ErrRange}, {"wall 3\nfriction 1 2\nbrake 0 0\n" + pulls, 5, api.ErrRange}, {"wall 2\nfriction 1 2\nbrake 0 0\n" + pulls, 0, api.OK},
		{strings.Repeat("x", api.MaxText), 0, api.ErrSyntax}, {strings.Repeat("x", api.MaxText+1), 0, api.ErrLong}, {head + strings.Repeat("pull 1\n", 600), 0, api.ErrLong},
	} {
		if x.e != api.OK {
			wantParseError(t, x.s, x.i, x.e)
			continue
		}
		_, _, e := barrier.Parse(x.s)
		want(t, "Parse of "+x.s, e, api.OK)
	}
	// Just as many bytes as a string may have, and one more.
	left := api.MaxText - len(head)
	longer := left % len("pull 1\n")
	many := strings.Repeat("pull 10\n", longer) + strings.Repeat("pull 1\n", left/len("pull 1\n")-longer)
	want(t, "the number of bytes", len(head+many), api.MaxText)
	wantParseError(t, head+many, 3+strings.Count(many, "\n"), api.ErrMany)
	wantParseError(t, head+"pull 10"+many[len("pull 1"):], 0, api.ErrLong)
}
