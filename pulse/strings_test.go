package pulse_test

import (
	"fmt"
	"strings"
	"testing"

	"crumple/api"
	"crumple/pulse"
)

// P8.4 (slopes and strings): both functions of strings with ordinary inputs, at their limits, and with their errors in their order.

const settingText = "step 0 40\nstep 3 20\n"

func TestPrintAndParse(t *testing.T) {
	for _, x := range []struct {
		l []pulse.Step
		s string
	}{
		{setting(), settingText}, {steps(0, 0), "step 0 0\n"}, {steps(0, 100, 64, 100), "step 0 100\nstep 64 100\n"}, {longSetting(12)[:4], "step 0 0\nstep 1 1\nstep 2 2\nstep 3 3\n"},
		{longSetting(12), "step 0 0\nstep 1 1\nstep 2 2\nstep 3 3\nstep 4 4\nstep 5 5\nstep 6 6\nstep 7 7\nstep 8 8\nstep 9 9\nstep 10 10\nstep 11 11\n"},
	} {
		s, e := pulse.Print(x.l)
		wantOK(t, "Print", s, e, x.s)
		l, i, e := pulse.Parse(x.s)
		wantOK(t, "Parse", l, e, x.l)
		want(t, "the index of Parse", i, 0)
	}
}

func TestErrorsOfPrint(t *testing.T) {
	for _, b := range badSettings() {
		s, e := pulse.Print(b.x)
		wantError(t, fmt.Sprintf("Print of %.99v", b.x), s, e, b.e)
	}
}

// wantParseError checks the error and the index of Parse.
func wantParseError(t *testing.T, s string, index int, wanted api.Errno) {
	t.Helper()
	l, i, e := pulse.Parse(s)
	what := fmt.Sprintf("Parse of %.99q", s)
	wantError(t, what, l, e, wanted)
	want(t, what+", the index", i, index)
}

func TestLinesThatAreWrong(t *testing.T) {
	for _, line := range []string{
		"\n", " \n", "step\n", "step \n", "step 4\n", "step 4 \n", "step 4 2", "step 4 2 \n", "step 4 2 1\n", " step 4 2\n", "4 2\n", "step", "4 step 2\n", "4 2 step\n", "x",
		"Step 4 2\n", "STEP 4 2\n", "steps 4 2\n", "ste 4 2\n", "step4 2\n", "step  4 2\n", "step 4  2\n", "step\t4 2\n", "step 4\t2\n", "step 4 2\r\n", "valve 4 2\n", "step step 2\n", "step 4 step\n",
		"step x 2\n", "step 4 x\n", "step 04 2\n", "step 4 02\n", "step 00 2\n", "step 4 00\n", "step -4 2\n", "step 4 -2\n", "step -0 2\n", "step 4 -0\n", "step +4 2\n", "step 4 2.0\n", "step 0x4 2\n", "step 4 1_0\n", "step 4 1e1\n", "step 4 \u0663\n", "step - 2\n", "step 4 2\x00\n",
		// Integers of 10 digits, and more.
		"step 1000000000 2\n", "step 4 1000000000\n", "step 0000000004 2\n", "step 4 99999999999999999999\n", "step 18446744073709551620 1\n",
	} {
		wantParseError(t, line, 0, api.ErrSyntax)
		wantParseError(t, settingText+line, 2, api.ErrSyntax)
		// What is before has an error that would come later, what is after is worse.
		wantParseError(t, "step 65 101\n"+settingText+line+"\x00", 3, api.ErrSyntax)
	}
	wantParseError(t, strings.Repeat("step 4 2\n", 40)+"step", 40, api.ErrSyntax)
	wantParseError(t, strings.Repeat("step 4 2\n", 40)+"\n", 40, api.ErrSyntax)
	wantParseError(t, strings.TrimSuffix(settingText, "\n"), 1, api.ErrSyntax)
}

func TestErrorsOfSettingsThatAreParsed(t *testing.T) {
	const line = "step 0 40\n"
	for _, x := range []struct {
		s string
		i int
		e api.Errno
	}{
		{"", 0, api.ErrEmpty}, {strings.Repeat(line, 13), 13, api.ErrMany}, {strings.Repeat(line, 12), 12, api.ErrOrder}, {line + line, 2, api.ErrOrder}, {"step 1 40\n", 1, api.ErrOrder}, {settingText + "step 2 0\n", 3, api.ErrOrder}, {settingText + "step 3 0\nstep 65 0\n", 4, api.ErrOrder},
		{"step 65 0\n", 1, api.ErrRange}, {"step 0 101\n", 1, api.ErrRange}, {"step 999999999 0\n", 1, api.ErrRange}, {"step 0 999999999\n", 1, api.ErrRange}, {settingText + "step 65 0\n", 3, api.ErrRange}, {settingText + "step 64 101\nstep 0 0\n", 4, api.ErrRange}, {settingText + "step 3 101\n", 3, api.ErrRange},
		{strings.Repeat("x", api.MaxText), 0, api.ErrSyntax}, {strings.Repeat("x", api.MaxText+1), 0, api.ErrLong}, {strings.Repeat(line, 410), 0, api.ErrLong},
	} {
		wantParseError(t, x.s, x.i, x.e)
	}
	// Just as many bytes as a string may have, and one more.
	all := strings.Repeat(line, 408) + "step 1111 40000\n"
	want(t, "the number of bytes", len(all), api.MaxText)
	wantParseError(t, all, 409, api.ErrMany)
	wantParseError(t, strings.Replace(all, "0", "10", 1), 0, api.ErrLong)
	wantParseError(t, all+"x", 0, api.ErrLong)
}
