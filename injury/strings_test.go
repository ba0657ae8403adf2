package injury_test

import (
	"fmt"
	"strings"
	"testing"

	"crumple/api"
	"crumple/injury"
)

// P6.4 (strings): both functions with ordinary inputs, at their limits, and with their errors in their order.

const tableText = "step 10 1 100\nstep 41 1 500\n"

func TestPrintAndParse(t *testing.T) {
	for _, x := range []struct {
		table []injury.Step
		s     string
	}{
		{table(), tableText}, {[]injury.Step{step(0, 1, 0)}, "step 0 1 0\n"}, {[]injury.Step{step(1, injury.MaxDen, 1000)}, "step 1 1000000 1000\n"}, {[]injury.Step{step(injury.MaxSize, 1, 1000)}, "step 5000000000000 1 1000\n"}, {[]injury.Step{step(1, 3, 7), step(1, 2, 7)}, "step 1 3 7\nstep 1 2 7\n"},
		{[]injury.Step{{From: least, Risk: 3}, {From: greatest, Risk: 40}}, "step 4999994999999 999999 3\nstep 4999999999999 1000000 40\n"},
	} {
		s, e := injury.Print(x.table)
		wantOK(t, "Print", s, e, x.s)
		l, i, e := injury.Parse(x.s)
		wantOK(t, "Parse", l, e, x.table)
		want(t, "the index of Parse", i, 0)
	}
}

func TestTheLongestTableIsParsed(t *testing.T) {
	var l []injury.Step
	for i := range injury.MaxSteps {
		l = append(l, step(4999999999001+10*i, injury.MaxDen, injury.MaxRisk))
	}
	s, e := injury.Print(l)
	want(t, "Print", e, api.OK)
	want(t, "the number of bytes", len(s), injury.MaxSteps*len("step 4999999999001 1000000 1000\n"))
	again, i, e := injury.Parse(s)
	wantOK(t, "Parse", again, e, l)
	want(t, "the index of Parse", i, 0)
}

// wantParseError checks the error of a string, and its index.
func wantParseError(t *testing.T, s string, i int, e api.Errno) {
	t.Helper()
	what := fmt.Sprintf("Parse of %.99q", s)
	l, at, got := injury.Parse(s)
	wantError(t, what, l, got, e)
	want(t, what+", the index", at, i)
}

func TestSyntaxErrors(t *testing.T) {
	for _, line := range []string{
		"\n", " \n", "step\n", "step \n", "step 1\n", "step 1 2\n", "step 1 2 \n", "step 1 2 3", "step 1 2 3 \n", "step 1 2 3 4\n", " step 1 2 3\n", "1 2 3\n", "step", "step 50 1 600 \n",
		"Step 1 2 3\n", "steps 1 2 3\n", "ste 1 2 3\n", "step  1 2 3\n", "step 1  2 3\n", "step 1 2  3\n", "step\t1 2 3\n", "step 1\t2 3\n", "step 1 2\t3\n", "step 1 2 3\r\n", "1 step 2 3\n", "mark 1 2 3\n",
		"step x 2 3\n", "step 1 x 3\n", "step 1 2 x\n", "step 01 2 3\n", "step 1 02 3\n", "step 1 2 03\n", "step 00 2 3\n", "step 1 2 00\n", "step -1 2 3\n", "step 1 -2 3\n", "step 1 2 -3\n", "step -0 2 3\n", "step 1 2 -0\n", "step +1 2 3\n", "step 1 2 3.0\n", "step 1/2 3\n", "step 0x1 2 3\n", "step 1 2 1_0\n", "step 1 2 1e1\n", "step 1 2 \u0663\n", "step - 2 3\n",
		// Integers of 14 digits, and more.
		"step 10000000000000 2 3\n", "step 1 10000000000000 3\n", "step 1 2 10000000000000\n", "step 00000000000001 2 3\n", "step 1 2 99999999999999999999\n", "step 18446744073709551617 1 3\n",
	} {
		wantParseError(t, line, 0, api.ErrSyntax)
		// What is before has an error that would come later, what is after is worse.
		wantParseError(t, "step 2 2 1001\n"+tableText+line+"\x00", 3, api.ErrSyntax)
	}
	wantParseError(t, strings.Repeat("step 1 2 3\n", 40)+"step", 40, api.ErrSyntax)
	wantParseError(t, strings.Repeat("step 1 2 3\n", 40)+"\n", 40, api.ErrSyntax)
}

func TestErrorsOfTablesThatAreParsed(t *testing.T) {
	const line = "step 1 2 3\n"
	for _, x := range []struct {
		s string
		i int
		e api.Errno
	}{
		{"", 0, api.ErrEmpty}, {strings.Repeat(line, 17), 17, api.ErrMany}, {strings.Repeat(line, 16), 16, api.ErrOrder}, {line + line, 2, api.ErrOrder},
		{tableText + "step 41 1 600\n", 3, api.ErrOrder}, {tableText + "step 40 1 600\n", 3, api.ErrOrder}, {tableText + "step 42 1 499\nstep 0 0 0\n", 4, api.ErrOrder}, {tableText + "step 1000001 1000000 600\n", 3, api.ErrOrder},
		{"step 5000000000001 1 0\n", 1, api.ErrRange}, {"step 9999999999999 2 0\n", 1, api.ErrRange}, {"step 1 0 0\n", 1, api.ErrRange}, {"step 0 0 0\n", 1, api.ErrRange}, {"step 1 1000001 0\n", 1, api.ErrRange}, {"step 1 9999999999999 0\n", 1, api.ErrRange}, {"step 1 1 1001\n", 1, api.ErrRange}, {"step 1 1 9999999999999\n" + line, 2, api.ErrRange},
		{"step 2 2 1001\n", 1, api.ErrForm}, {"step 0 2 0\n", 1, api.ErrForm}, {tableText + "step 3 6 0\nstep 0 0 0\n", 4, api.ErrForm},
		{strings.Repeat("x", api.MaxText), 0, api.ErrSyntax}, {strings.Repeat("x", api.MaxText+1), 0, api.ErrLong}, {strings.Repeat(line, 400), 0, api.ErrLong},
	} {
		wantParseError(t, x.s, x.i, x.e)
	}
	// Just as many bytes as a string may have, and one more.
	all := strings.Repeat(line, 371) + "step 11111 2 3\n"
	want(t, "the number of bytes", len(all), api.MaxText)
	wantParseError(t, all, 372, api.ErrMany)
	wantParseError(t, strings.Replace(all, "1", "10", 1), 0, api.ErrLong)
	wantParseError(t, all+"x", 0, api.ErrLong)
}
