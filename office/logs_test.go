package office_test

import (
	"fmt"
	"slices"
	"strings"
	"testing"

	"crumple/api"
	"crumple/office"
)

// P10.3 (logs): both functions with ordinary inputs, at their limits, and with their errors in their order.

// recovered is events with a length, as Recover returns both.
type recovered struct {
	l   []api.Event
	end int
}

// logOfJ is the log of J.
const logOfJ = "1 part p ann 1#1922564\n2 cert c p 1 9#2916725\n3 test t p 2#6124552\n4 channel h t 2 450#2917005\n5 programme g 2 200 700#7925844\n6 score s h g 3#2345228\n"

// summed returns a line of a log with a body: its checksum is right.
func summed(body string) string { return body + "#" + slowSum(body) + "\n" }

// wantRecovered checks what is recovered of a string.
func wantRecovered(t *testing.T, s string, l []api.Event, end int, wanted api.Errno) {
	t.Helper()
	got, n, e := office.Recover(s)
	what := fmt.Sprintf("Recover of %d bytes to %q", len(s), s[max(0, min(end, len(s)-99)):])
	want(t, what+", the error", e, wanted)
	want(t, what, recovered{got, n}, recovered{l, end})
}

func TestLogs(t *testing.T) {
	kinds := then(journal(), "hand p bob 3", "correct h 3 0", "revise g 3 0 999999999", "appeal s 3", "undo", "appeal s 3", "uphold s 3", "withdraw c 999999999")
	unaccepted := events("undo", "change s 0", "hand p p 7", "hand p p 3", "test t t 0")
	greatest := then(nil, "score "+longest+" "+longest+" "+longest+" 999999999", "programme "+longest+" 999999999 999999999 999999999")
	for _, l := range [][]api.Event{nil, journal(), kinds, unaccepted, greatest, full(), handing(api.MaxEvents)} {
		log := ""
		for _, e := range l {
			var errno api.Errno
			if log, errno = office.Append(log, e); errno != api.OK {
				t.Fatalf("Append of %v: got %d", e, errno)
			}
		}
		want(t, "the log of "+told(l), log, slowLog(l))
		wantRecovered(t, log, l, len(log), api.OK)
	}
	want(t, "the log of J", slowLog(journal()), logOfJ)
}

func TestLogsWithMuchThatFollows(t *testing.T) {
	for _, x := range []struct {
		rest string
		e    api.Errno
	}{
		// Without a line feed all is torn.
		{"7", api.ErrTorn}, {"7 undo", api.ErrTorn}, {"7 undo#", api.ErrTorn}, {strings.TrimSuffix(summed("7 undo"), "\n"), api.ErrTorn}, {" ", api.ErrTorn}, {"\x00", api.ErrTorn}, {"\r", api.ErrTorn}, {"x#0000000", api.ErrTorn},
		// No # with seven digits after it.
		{"\n", api.ErrSyntax}, {"7 undo\n", api.ErrSyntax}, {"7 undo#\n", api.ErrSyntax}, {"0000000\n", api.ErrSyntax}, {"#000000\n", api.ErrSyntax}, {"7 undo" + slowSum("7 undo") + "\n", api.ErrSyntax}, {"7 undo#" + slowSum("7 undo")[1:] + "\n", api.ErrSyntax}, {"7 undo#" + slowSum("7 undo") + "0\n", api.ErrSyntax}, {"7 undo#" + slowSum("7 undo") + " \n", api.ErrSyntax}, {"7 undo#" + slowSum("7 undo") + "\r\n", api.ErrSyntax}, {"7 undo #" + slowSum("7 undo")[:6] + "x\n", api.ErrSyntax}, {"7 undo#-000001\n", api.ErrSyntax}, {"7 undo#+000001\n", api.ErrSyntax}, {"7 undo#00000\u0663\n", api.ErrSyntax}, {"7 undo#      1\n", api.ErrSyntax}, {"\n" + summed("7 undo"), api.ErrSyntax}, {"\r\n", api.ErrSyntax}, {"7 undo\xff0000000\n", api.ErrSyntax},
		// A wrong checksum comes before a body that is none.
		{"#0000000\n", api.ErrCheck}, {"7 undo#0000000\n", api.ErrCheck}, {"7 undo #" + slowSum("7 undo") + "\n", api.ErrCheck}, {"7 undo##" + slowSum("7 undo") + "\n", api.ErrCheck}, {"x#0000000\n", api.ErrCheck}, {"9 undo#" + slowSum("7 undo") + "\n", api.ErrCheck}, {"\r#0000013\n", api.ErrCheck},
		// Bodies that are none.
		{"#0000013\n", api.ErrSyntax}, {summed("undo"), api.ErrSyntax}, {summed("7"), api.ErrSyntax}, {summed("7 "), api.ErrSyntax}, {summed(" 7 undo"), api.ErrSyntax}, {summed("7 undo "), api.ErrSyntax}, {summed("7  undo"), api.ErrSyntax}, {summed("7 undo#"), api.ErrSyntax}, {summed("7 undo#" + slowSum("7 undo")), api.ErrSyntax}, {summed("7\tundo"), api.ErrSyntax}, {summed("07 undo"), api.ErrSyntax}, {summed("-7 undo"), api.ErrSyntax}, {summed("+7 undo"), api.ErrSyntax}, {summed("x undo"), api.ErrSyntax}, {summed("0 undo"), api.ErrSyntax}, {summed("1001 undo"), api.ErrSyntax}, {summed("1000000000 undo"), api.ErrSyntax}, {summed("18446744073709551623 undo"), api.ErrSyntax}, {summed("7 Undo"), api.ErrSyntax}, {summed("7 redo"), api.ErrSyntax}, {summed("7 undo 0"), api.ErrSyntax}, {summed("7 undo x"), api.ErrSyntax},
		{summed("7 part q ann"), api.ErrSyntax}, {summed("7 part q 3"), api.ErrSyntax}, {summed("7 part q ann 3 3"), api.ErrSyntax}, {summed("7 part q ann 03"), api.ErrSyntax}, {summed("7 part q ann -3"), api.ErrSyntax}, {summed("7 part q ann 1000000000"), api.ErrSyntax}, {summed("7 part q 3 ann"), api.ErrSyntax}, {summed("7 part 9 ann 3"), api.ErrSyntax}, {summed("7 part q 9 3"), api.ErrSyntax}, {summed("7 part " + longest + "x ann 3"), api.ErrSyntax}, {summed("7 part q# ann 3"), api.ErrSyntax}, {summed("7 part h\u00e9ad ann 3"), api.ErrSyntax}, {summed("7 part q ann 3\r"), api.ErrSyntax}, {summed("7 programme g 3 1"), api.ErrSyntax}, {summed("7 programme g 3 1 2 3"), api.ErrSyntax}, {summed("7 points s"), api.ErrSyntax}, {summed("7 questioned"), api.ErrSyntax},
		// Records of another Number.
		{summed("1 undo"), api.ErrOrder}, {summed("6 undo"), api.ErrOrder}, {summed("8 undo"), api.ErrOrder}, {summed("1000 part q ann 3"), api.ErrOrder}, {logOfJ, api.ErrOrder},
		// The first line of the rest decides.
		{"7 undo#0000000\n\n", api.ErrCheck}, {"\n7 undo#0000000\n", api.ErrSyntax}, {summed("8 undo") + "\n", api.ErrOrder}, {summed("7 undo ") + "x", api.ErrSyntax},
	} {
		wantRecovered(t, logOfJ+x.rest, journal(), len(logOfJ), x.e)
		s, e := office.Append(logOfJ+x.rest, event(7, "undo"))
		wantError(t, fmt.Sprintf("Append after %q", x.rest), s, e, x.e)
		// What is after it does not count.
		if x.e != api.ErrTorn {
			wantRecovered(t, logOfJ+x.rest+logOfJ, journal(), len(logOfJ), x.e)
			wantRecovered(t, logOfJ+x.rest+summed("7 undo"), journal(), len(logOfJ), x.e)
		}
	}
	// Without a log before it.
	for _, x := range []struct {
		s string
		e api.Errno
	}{{"x", api.ErrTorn}, {"\n", api.ErrSyntax}, {logOfJ[1:], api.ErrCheck}, {summed("2 undo"), api.ErrOrder}, {logOfJ[strings.Index(logOfJ, "2 cert"):], api.ErrOrder}, {"1 undo#0000000\n", api.ErrCheck}} {
		wantRecovered(t, x.s, nil, 0, x.e)
	}
}

func TestTheLongestLogs(t *testing.T) {
	wantRecovered(t, strings.Repeat("x", api.MaxLog), nil, 0, api.ErrTorn)
	wantRecovered(t, strings.Repeat("\n", api.MaxLog), nil, 0, api.ErrSyntax)
	wantRecovered(t, logOfJ+strings.Repeat("x", api.MaxLog-len(logOfJ)), journal(), len(logOfJ), api.ErrTorn)
	for _, s := range []string{strings.Repeat("x", api.MaxLog+1), logOfJ + strings.Repeat("\n", api.MaxLog), strings.Repeat(logOfJ, 10000), strings.Repeat(" ", 2*api.MaxLog)} {
		wantRecovered(t, s, nil, 0, api.ErrLong)
		for _, e := range []api.Event{event(1, "undo"), event(7, "undo"), {}} {
			log, errno := office.Append(s, e)
			wantError(t, "Append to too long a string", log, errno, api.ErrLong)
		}
	}
	// A record more than there may be events.
	l := handing(api.MaxEvents)
	log := slowLog(l)
	wantRecovered(t, log+summed("1001 undo"), l, len(log), api.ErrSyntax)
	wantRecovered(t, log+summed("1000 undo"), l, len(log), api.ErrOrder)
	wantRecovered(t, log+summed("1 undo"), l, len(log), api.ErrOrder)
	wantRecovered(t, log+"1001 undo#0000000\n", l, len(log), api.ErrCheck)
	wantRecovered(t, log+"1001", l, len(log), api.ErrTorn)
	for number, wanted := range map[int]api.Errno{1: api.ErrOrder, api.MaxEvents: api.ErrOrder, api.MaxEvents + 1: api.ErrRange} {
		s, e := office.Append(log, event(number, "undo"))
		wantError(t, fmt.Sprintf("Append of %d to 1000 records", number), s, e, wanted)
	}
}

func TestAppend(t *testing.T) {
	s, e := office.Append("", event(1, "part p ann 1"))
	wantOK(t, "Append of the first event", s, e, logOfJ[:23])
	s, e = office.Append(logOfJ, event(7, "undo"))
	wantOK(t, "Append of an undo", s, e, logOfJ+summed("7 undo"))
	// It is not asked whether an event is accepted.
	s, e = office.Append(logOfJ, event(7, "hand x x 0"))
	wantOK(t, "Append of what is not accepted", s, e, logOfJ+summed("7 hand x x 0"))
	for _, number := range []int{1, 5, 6, 8, 9, api.MaxEvents} {
		s, e := office.Append(logOfJ, event(number, "undo"))
		wantError(t, fmt.Sprintf("Append of the Number %d", number), s, e, api.ErrOrder)
	}
	for _, b := range badEvents() {
		s, e := office.Append(logOfJ, b.x)
		wantError(t, "Append of "+short(b.x), s, e, b.e)
		s, e = office.Append("", b.x)
		wantError(t, "Append to nothing of "+short(b.x), s, e, b.e)
		s, e = office.Append(logOfJ+"7", b.x)
		wantError(t, "Append to a torn log of "+short(b.x), s, e, api.ErrTorn)
	}
}

func TestLogsByTheDefinition(t *testing.T) {
	r := dice(4)
	reached := map[api.Errno]int{}
	bytes := []byte("0123456789# \nxsundo\x00\xff")
	for range 4000 {
		l := someJournal(r, between(r, 0, 9))
		s := []byte(slowLog(l))
		for range between(r, 0, 2) {
			at := 0
			if len(s) > 0 {
				at = r.IntN(len(s))
			}
			switch r.IntN(3) {
			case 0:
				s = slices.Insert(s, at, one(r, bytes))
			case 1:
				s = s[:at]
			case 2:
				s = append(s, summed(fmt.Sprint(between(r, 0, 9), one(r, []string{" undo", " undo ", " part p ann 1", "# undo"})))...)
			}
		}
		wanted, end, e := slowRecover(string(s))
		reached[e]++
		wantRecovered(t, string(s), wanted, end, e)
	}
	for _, e := range []api.Errno{api.OK, api.ErrTorn, api.ErrSyntax, api.ErrCheck, api.ErrOrder} {
		want(t, fmt.Sprintf("whether %d is often reached (%d times)", e, reached[e]), reached[e] > 50, true)
	}
}
