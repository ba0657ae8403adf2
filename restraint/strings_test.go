package restraint_test

import (
	"fmt"
	"strings"
	"testing"

	"crumple/api"
	"crumple/restraint"
)

// P7.4 (strings): both functions with ordinary inputs, at their limits, and with their errors in their order.

const carText = "masses 10 2\nbag 4 3\nfront 0 0 10 100\nbelt 0 0 5 20\ncushion 0 0 10 40\n"

// heaviest returns a model with as many points as are permitted, and the greatest numbers.
func heaviest() restraint.Model {
	long := spring(0, 1000000, 99994, 999999, 99995, 1000000, 99996, 999999, 99997, 1000000, 99998, 999999, 99999, 1000000, 100000, 999999)
	return restraint.Model{Car: 100000, Occupant: 100000, Front: long, Belt: long, Bag: long, Gap: 100000, Steps: 200}
}

func TestPrintAndParse(t *testing.T) {
	const longText = " 0 1000000 99994 999999 99995 1000000 99996 999999 99997 1000000 99998 999999 99999 1000000 100000 999999\n"
	for _, x := range []struct {
		m restraint.Model
		s string
	}{
		{car(), carText}, {heaviest(), "masses 100000 100000\nbag 100000 200\nfront" + longText + "belt" + longText + "cushion" + longText},
		{restraint.Model{Car: 1, Occupant: 3, Front: spring(0, 7, 1, 8), Belt: spring(0, 0, 2, 0), Bag: spring(0, 5, 3, 4, 6, 9), Steps: 2}, "masses 1 3\nbag 0 2\nfront 0 7 1 8\nbelt 0 0 2 0\ncushion 0 5 3 4 6 9\n"},
	} {
		s, e := restraint.Print(x.m)
		wantOK(t, "Print", s, e, x.s)
		m, i, e := restraint.Parse(x.s)
		wantOK(t, "Parse", m, e, x.m)
		want(t, "the index of Parse", i, 0)
	}
}

func TestErrorsOfPrint(t *testing.T) {
	for _, b := range badModels() {
		s, e := restraint.Print(b.x)
		wantError(t, fmt.Sprintf("Print of %v", b.x), s, e, b.e)
	}
}

// wantParseError checks the error and the index of Parse.
func wantParseError(t *testing.T, s string, index int, wanted api.Errno) {
	t.Helper()
	m, i, e := restraint.Parse(s)
	what := fmt.Sprintf("Parse of %.200q", s)
	wantError(t, what, m, e, wanted)
	want(t, what+", the index", i, index)
}

// withLine returns the string of the model M with another line at an index.
func withLine(index int, line string) string {
	l := strings.SplitAfter(carText, "\n")
	l[index] = line
	return strings.Join(l, "")
}

func TestLinesThatAreWrong(t *testing.T) {
	heads := []string{"masses", "bag", "front", "belt", "cushion"}
	for i, head := range heads {
		for _, line := range []string{
			"\n", " \n", head + "s 1 2\n", head[1:] + " 1 2\n", strings.ToUpper(head) + " 1 2\n", head + " \n", " " + head + " 1 2\n", head + "  1 2\n", head + " 1  2\n", head + " 1 2 \n", head + "\t1 2\n", head + " 1\t2\n", head + " 1 2\r\n", "1 2\n", "1 2 " + head + "\n", heads[(i+1)%5] + " 1 2\n", heads[(i+4)%5] + " 1 2\n",
			head + " 1\n", head + " 1 2 3\n", head + " 1 2 3 4 5\n", head + " " + head + "\n", head + " 1 " + head + "\n", head + " 1 2 " + head + "\n",
			head + " x 2\n", head + " 1 x\n", head + " 01 2\n", head + " 1 02\n", head + " 00 2\n", head + " 1 00\n", head + " -1 2\n", head + " 1 -2\n", head + " -0 2\n", head + " 1 -0\n", head + " +1 2\n", head + " 1 2.0\n", head + " 0x1 2\n", head + " 1 1_0\n", head + " 1 1e1\n", head + " 1 \u0663\n", head + " - 2\n", head + " 1 -\n",
			// Integers of 10 digits, and more.
			head + " 1000000000 2\n", head + " 1 1000000000\n", head + " 0000000001 2\n", head + " 1 99999999999999999999\n", head + " 18446744073709551617 1\n",
		} {
			wantParseError(t, withLine(i, line), i, api.ErrSyntax)
			// What is before has an error that would come later, what is after is worse.
			s := withLine(i, line) + "\x00"
			if i > 0 {
				s = strings.Replace(s, "masses 10 2", "masses 0 2", 1)
			}
			wantParseError(t, s, i, api.ErrSyntax)
			wantParseError(t, strings.Join(strings.SplitAfter(carText, "\n")[:i], "")+line, i, api.ErrSyntax)
		}
	}
	for i := range 2 {
		wantParseError(t, withLine(i, heads[i]+"\n"), i, api.ErrSyntax)
		wantParseError(t, withLine(i, heads[i]+" 1 2 3 4\n"), i, api.ErrSyntax)
	}
	// Lines in another order, twice, or without a line feed.
	wantParseError(t, withLine(0, "bag 4 3\nmasses 10 2\n"), 0, api.ErrSyntax)
	wantParseError(t, withLine(1, "masses 10 2\n"), 1, api.ErrSyntax)
	wantParseError(t, withLine(3, ""), 3, api.ErrSyntax)
	lines := strings.SplitAfter(carText, "\n")
	for i := range 5 {
		wantParseError(t, strings.TrimSuffix(strings.Join(lines[:i+1], ""), "\n"), i, api.ErrSyntax)
	}
}

func TestFurtherLinesAndTooFewLines(t *testing.T) {
	for _, line := range []string{"\n", "x", "x\n", " ", "cushion 0 0 10 40\n", "masses 10 2\n", "cushion\n", "\n\n", "\x00"} {
		wantParseError(t, carText+line, 5, api.ErrSyntax)
		wantParseError(t, withLine(0, "masses 0 0\n")+line, 5, api.ErrSyntax)
	}
	wantParseError(t, carText+carText, 5, api.ErrSyntax)
	lines := strings.SplitAfter(carText, "\n")
	for n := range 5 {
		wantParseError(t, strings.Join(lines[:n], ""), n, api.ErrSyntax)
		if n > 0 {
			// The model's own errors do not come before that of a line that is missing.
			wantParseError(t, "masses 0 0\n"+strings.Join(lines[1:n], ""), n, api.ErrSyntax)
		}
	}
}

func TestErrorsOfModelsThatAreParsed(t *testing.T) {
	for _, x := range []struct {
		index int
		line  string
		e     api.Errno
	}{
		{0, "masses 0 2\n", api.ErrRange}, {0, "masses 10 0\n", api.ErrRange}, {0, "masses 100001 2\n", api.ErrRange}, {0, "masses 10 100001\n", api.ErrRange}, {0, "masses 999999999 999999999\n", api.ErrRange},
		{1, "bag 100001 3\n", api.ErrRange}, {1, "bag 4 0\n", api.ErrRange}, {1, "bag 4 201\n", api.ErrRange},
		{2, "front\n", api.ErrShort}, {2, "front 0 0\n", api.ErrShort}, {2, "front 1 0 2 0\n", api.ErrOrder}, {2, "front 0 0 0 0\n", api.ErrOrder}, {2, "front 0 0 5 1000001\n", api.ErrRange}, {2, "front 0 0 100001 5\n", api.ErrRange}, {2, "front 999999999 0 0 0\n", api.ErrRange},
		{3, "belt\n", api.ErrShort}, {3, "belt 5 0\n", api.ErrShort}, {3, "belt 0 0 3 1 2 1\n", api.ErrOrder}, {3, "belt 0 0 5 999999999\n", api.ErrRange},
		{4, "cushion\n", api.ErrShort}, {4, "cushion 0 0 1 0 2 0 3 0 4 0 5 0 6 0 7 0 8 0\n", api.ErrMany}, {4, "cushion 0 1000001 1 0\n", api.ErrRange}, {4, "cushion 0 0 4 0 4 0\n", api.ErrOrder},
	} {
		wantParseError(t, withLine(x.index, x.line), 5, x.e)
	}
	// The first error of the model counts, not that of the first line.
	both := strings.Replace(withLine(2, "front\n"), "bag 4 3", "bag 4 0", 1)
	wantParseError(t, both, 5, api.ErrShort)
	wantParseError(t, strings.Replace(both, "masses 10", "masses 0", 1), 5, api.ErrRange)
}

func TestLongStrings(t *testing.T) {
	wantParseError(t, strings.Repeat("x", api.MaxText), 0, api.ErrSyntax)
	wantParseError(t, strings.Repeat("x", api.MaxText+1), 0, api.ErrLong)
	// Just as many bytes as a string may have, and one more.
	all := "masses 10000" + strings.TrimPrefix(strings.TrimSuffix(carText, "\n"), "masses 10") + strings.Repeat(" 0", 2012) + "\n"
	want(t, "the number of bytes", len(all), api.MaxText)
	wantParseError(t, all, 5, api.ErrMany)
	wantParseError(t, all+"\n", 0, api.ErrLong)
	wantParseError(t, carText+strings.Repeat("\n", api.MaxText-len(carText)), 5, api.ErrSyntax)
	wantParseError(t, carText+strings.Repeat("\n", api.MaxText-len(carText)+1), 0, api.ErrLong)
}
