package office_test

import (
	"fmt"
	"strings"
	"testing"

	"crumple/api"
	"crumple/office"
)

// P10.4 (console): all lines with their results, at their limits, and with their errors in their order.

// opened returns a session with events.
func opened(t *testing.T, l []api.Event) *office.Session {
	t.Helper()
	s, e := office.Open(slowLog(l))
	want(t, "Open", e, api.OK)
	return s
}

// wantSession checks which events a session has.
func wantSession(t *testing.T, what string, s *office.Session, l []api.Event) {
	t.Helper()
	want(t, "Events "+what, s.Events(), l)
	want(t, "Log "+what, s.Log(), slowLog(l))
}

// wantLine checks what a line leads to in a session; without an error that of an event is added.
func wantLine(t *testing.T, s *office.Session, line, result string, wanted api.Errno) {
	t.Helper()
	got, e := s.Do(line)
	what := fmt.Sprintf("Do of %q", line[:min(len(line), 199)])
	wantError(t, what, got, e, wanted)
	want(t, what, got, result)
}

func TestNew(t *testing.T) {
	s := office.New()
	wantSession(t, "of a new session", s, nil)
	lines := []string{"part p ann 1", "cert c p 1 9", "test t p 2", "channel h t 2 450", "programme g 2 200 700", "score s h g 3", "correct h 3 300", "revise g 3 100 500", "hand p bob 4", "appeal s 4", "undo", "appeal s 5", "change s 6", "withdraw c 7"}
	for i, line := range lines {
		wantLine(t, s, line, fmt.Sprint("done ", i+1), api.OK)
		wantSession(t, "after "+line, s, events(lines[:i+1]...))
	}
	wantLine(t, s, "channel k t 7 0", "done 15", api.OK)
	wantLine(t, s, "score u k g 7", "", api.ErrRight)
	// Sessions have nothing in common.
	wantSession(t, "of another session", office.New(), nil)
}

func TestQuestions(t *testing.T) {
	j := opened(t, journal())
	for _, x := range []struct{ line, result string }{
		{"points s", "500 500 0"}, {"valid p 9", "c"}, {"valid p 1", "c"}, {"questioned", "none"}, {"stars g", "2"}, {"why s", "500 g 0 200 700 h 0 450 t p c"}, {"keepers p", "ann 1"},
	} {
		wantLine(t, j, x.line, x.result, api.OK)
	}
	later := then(journal(), "correct h 3 300", "cert d p 3 20", "test u p 5", "hand p bob 5", "hand p cid 5", "appeal s 5", "programme f 5 0 1", "part q ann 5")
	for _, x := range []struct {
		l            []api.Event
		line, result string
	}{
		{later, "points s", "500 800 1"}, {then(later, "change s 5"), "points s", "800 800 3"}, {then(later, "uphold s 5"), "points s", "500 800 2"}, {then(later, "change s 5", "revise g 5 1 2"), "points s", "800 0 3"}, {then(later, "change s 5"), "why s", "800 g 0 200 700 h 1 300 t p c"}, {then(later, "change s 5"), "stars g", "4"},
		{later, "valid p 2", "c"}, {later, "valid p 3", "d"}, {later, "valid p 20", "d"}, {later, "keepers p", "ann 1 bob 5 cid 5"}, {later, "keepers q", "ann 5"}, {later, "questioned", "none"}, {then(later, "withdraw c 5"), "questioned", "t"}, {then(later, "withdraw d 5"), "questioned", "u"}, {then(later, "withdraw d 5", "withdraw c 5"), "questioned", "t u"},
		{nil, "questioned", "none"}, {graded(0), "stars g", "0"}, {graded(1000, 999), "stars g", "5"}, {events("part p ann 999999999", "cert c p 999999999 999999999"), "valid p 999999999", "c"}, {events("part p ann 0", "cert c p 0 0"), "valid p 0", "c"},
	} {
		wantLine(t, opened(t, x.l), x.line, x.result, api.OK)
	}
}

// wrongLines are lines that do not have their form; none of their first words is unknown.
func wrongLines() []string {
	l := []string{
		"questioned ", "questioned t", "questioned  ", "valid", "valid ", "valid p", "valid p ", "valid  9", "valid p 9 ", "valid p  9", "valid p 9 9", "valid p x", "valid 9 p", "valid p c", "points", "points ", "points s ", "points  s", "points s 3", "points s s", "stars", "stars ", "stars g g", "stars  g", "why", "why ", "why s ", "why s s", "keepers", "keepers ", "keepers p p", "keepers  p", "keepers p 1",
		"undo ", "undo 3", "undo x", "undo  ", "part", "part ", "part q", "part q ann", "part q ann ", "part q  3", "part  ann 3", "part q ann 3 ", "part q ann  3", "part q ann 3 3", "part q ann bob 3", "part q 3", "part 3", "part q ann x", "hand p bob", "hand p 3", "hand p bob 3 3", "cert d p 3", "cert d p 3 9 9", "cert d 3 9", "cert d p q 9", "withdraw", "withdraw c", "withdraw 3", "withdraw c c 3", "withdraw c 3 9", "test u p", "test u 3", "test u p 3 3", "channel k t 3", "channel k 3 0", "channel k t 3 0 0", "correct h 3", "correct 3 0", "correct h h 3 0", "correct h 3 0 0", "programme k 3 1", "programme k 3 1 2 3", "programme 3 1 2", "programme k g 3 1 2", "revise g 3 1", "revise g 1", "revise g 3 1 2 3", "score u h g", "score u h 3", "score u h g 3 3", "appeal s", "appeal 3", "appeal s s 3", "uphold s", "uphold s 3 3", "change s", "change s 3 ", "change  s 3", "part q ann 3\n",
	}
	for _, number := range []string{"x", "01", "00", "-1", "-0", "+1", "1.0", "0x1", "1_0", "1e1", "\u0663", "-", "1000000000", "0000000001", "99999999999999999999", "18446744073709551617", "3\n", "\n3", "3\r"} {
		l = append(l, "valid p "+number, "valid x "+number, "part q ann "+number, "part p ann "+number, "cert d p 3 "+number, "cert d p "+number+" 9", "withdraw x "+number, "channel 9 9 3 "+number, "correct h "+number+" 0", "programme k 3 "+number+" 9", "revise g 3 1 "+number, "score s s s "+number, "change s "+number)
	}
	return l
}

// unknownLines are lines whose first word is unknown.
func unknownLines() []string {
	return []string{" ", "  ", " undo", "undo\n", "undo\tx", "\n", "\x00", "Undo", "UNDO", "undoo", "und", "x", "x y z", "1", "1 part q ann 3", "7 undo", "none", "done 1", "Part q ann 3", "parts q ann 3", "part\tq ann 3", "part,q", "keepers\x00", "keeper p", "questioned\n", "question", "valid\tp 9", "Valid p 9", "points\xff s", "\xff", "#", "score_ s h g 3", "\u00e9", "events", "log", "help", "Points s", "star g", "why? s"}
}

func TestErrorsOfLines(t *testing.T) {
	for _, l := range [][]api.Event{nil, journal(), then(journal(), "withdraw c 3"), handing(api.MaxEvents)} {
		s := opened(t, l)
		wantLine(t, s, "", "", api.ErrSyntax)
		for _, line := range wrongLines() {
			wantLine(t, s, line, "", api.ErrSyntax)
		}
		for _, line := range unknownLines() {
			wantLine(t, s, line, "", api.ErrKind)
		}
		wantSession(t, "after lines that are wrong", s, l)
	}
	j := opened(t, then(journal(), "part q ann 3", "programme f 3 1 2"))
	for _, x := range []wrong[string]{
		// For the questions.
		{"valid x 9", api.ErrUnknown}, {"valid c 9", api.ErrUnknown}, {"valid 9 9", api.ErrUnknown}, {"valid ann 9", api.ErrUnknown}, {"valid p 10", api.ErrNone}, {"valid p 0", api.ErrNone}, {"valid p 999999999", api.ErrNone}, {"valid q 3", api.ErrNone}, {"points x", api.ErrUnknown}, {"points h", api.ErrUnknown}, {"points #", api.ErrUnknown}, {"points s\n", api.ErrUnknown}, {"stars x", api.ErrUnknown}, {"stars s", api.ErrUnknown}, {"stars \xff", api.ErrUnknown}, {"stars f", api.ErrNone}, {"why x", api.ErrUnknown}, {"why 3", api.ErrUnknown}, {"keepers x", api.ErrUnknown}, {"keepers ann", api.ErrUnknown}, {"keepers " + longest + "x", api.ErrUnknown},
		// Names are any words; whether they are names, is asked later.
		{"part 9 ann 3", api.ErrName}, {"part r 9 3", api.ErrName}, {"part p# ann 0", api.ErrName}, {"hand p bob! 3", api.ErrName}, {"hand x -1 3", api.ErrName}, {"score 1 2 3 4", api.ErrName}, {"score s h g# 3", api.ErrName}, {"cert d p\n 3 9", api.ErrName}, {"appeal " + longest + "x 3", api.ErrName}, {"withdraw c\x00 0", api.ErrName},
	} {
		wantLine(t, j, x.x, "", x.e)
	}
	for _, name := range badNames {
		wantLine(t, j, "part "+name+" ann 0", "", api.ErrName)
		wantLine(t, j, "part p "+name+" 0", "", api.ErrName)
		wantLine(t, j, "keepers "+name, "", api.ErrUnknown)
		wantLine(t, j, "valid "+name+" 0", "", api.ErrUnknown)
	}
	wantSession(t, "after questions and names", j, then(journal(), "part q ann 3", "programme f 3 1 2"))
	for _, x := range refused() {
		s := opened(t, x.before)
		wantLine(t, s, x.line, "", x.e)
		wantSession(t, "after "+x.line, s, x.before)
	}
}

func TestTheLongestLines(t *testing.T) {
	s := opened(t, journal())
	for _, word := range []string{"part q ", "keepers ", "x", "undo ", ""} {
		for _, n := range []int{api.MaxText + 1, 2 * api.MaxText, 100000} {
			wantLine(t, s, word+strings.Repeat("x", n-len(word)), "", api.ErrLong)
			wantLine(t, s, word+strings.Repeat(" ", n-len(word)), "", api.ErrLong)
		}
	}
	for _, x := range []struct {
		first, last string
		e           api.Errno
	}{{"keepers ", "", api.ErrUnknown}, {"part ", " ann 3", api.ErrName}, {"part q ann 3", "", api.ErrSyntax}, {"undo", "", api.ErrKind}, {"undo ", "", api.ErrSyntax}, {"x", "", api.ErrKind}} {
		wantLine(t, s, x.first+strings.Repeat("x", api.MaxText-len(x.first)-len(x.last))+x.last, "", x.e)
	}
	wantSession(t, "after long lines", s, journal())
}

func TestAsManyEventsOfASessionAsArePermitted(t *testing.T) {
	l := handing(api.MaxEvents)
	s := opened(t, l[:api.MaxEvents-2])
	wantLine(t, s, line(l[api.MaxEvents-2]), "done 999", api.OK)
	wantLine(t, s, "undo", "done 1000", api.OK)
	wanted := then(l[:api.MaxEvents-1], "undo")
	for _, x := range []wrong[string]{{"undo", api.ErrMany}, {"part q ann 3", api.ErrMany}, {"hand 9 9 0", api.ErrMany}, {"hand x x 0", api.ErrMany}, {"undo ", api.ErrSyntax}, {"hand p x", api.ErrSyntax}, {"hand p bob 01", api.ErrSyntax}, {"keepers x", api.ErrUnknown}, {"redo", api.ErrKind}, {strings.Repeat("undo", 1025), api.ErrLong}, {"", api.ErrSyntax}} {
		wantLine(t, s, x.x, "", x.e)
	}
	wantLine(t, s, "questioned", "none", api.OK)
	wantSession(t, "with 1000 events", s, wanted)
	again, e := office.Open(s.Log())
	want(t, "Open of 1000 events", e, api.OK)
	wantSession(t, "opened with 1000 events", again, wanted)
}

func TestOpen(t *testing.T) {
	for _, l := range [][]api.Event{nil, journal(), full(), then(journal(), "undo", "undo"), then(journal(), "withdraw c 3", "part q ann 3", "undo")} {
		log := slowLog(l)
		// What is torn at the end is left out.
		for _, rest := range []string{"", "x", "7 undo", " ", strings.TrimSuffix(summed(fmt.Sprint(len(l)+1, " undo")), "\n")} {
			s, e := office.Open(log + rest)
			want(t, "Open", e, api.OK)
			wantSession(t, "of a log", s, l)
			wantLine(t, s, "questioned", map[bool]string{false: "none", true: "t"}[len(l) == 9], api.OK)
		}
	}
	for _, x := range []wrong[string]{
		{logOfJ + "\n", api.ErrSyntax}, {logOfJ + "7 undo\n", api.ErrSyntax}, {logOfJ + "7 undo#0000000\n", api.ErrCheck}, {logOfJ + summed("8 undo"), api.ErrOrder}, {logOfJ + logOfJ, api.ErrOrder}, {logOfJ + summed("7 part 9 ann 3"), api.ErrSyntax}, {strings.Repeat("x", api.MaxLog+1), api.ErrLong}, {"\n", api.ErrSyntax}, {"x#0000000\nx", api.ErrCheck},
		// Events that are not accepted, also before a rest that is torn; the error of a log comes first.
		{summed("1 undo"), api.ErrEmpty}, {summed("1 undo") + "x", api.ErrEmpty}, {summed("1 undo") + "\n", api.ErrSyntax}, {logOfJ + summed("7 part p ann 3"), api.ErrTwice}, {logOfJ + summed("7 part p ann 2"), api.ErrState}, {logOfJ + summed("7 hand p ann 3") + summed("8 undo"), api.ErrHeld}, {logOfJ + summed("7 hand p ann 3") + summed("9 undo"), api.ErrOrder},
	} {
		s, e := office.Open(x.x)
		want(t, "whether there is no session", s == nil, true)
		want(t, fmt.Sprintf("Open of %q", x.x[max(0, len(x.x)-99):]), e, x.e)
	}
	for _, x := range refused() {
		s, e := office.Open(slowLog(then(x.before, x.line)))
		want(t, "whether there is no session", s == nil, true)
		want(t, "Open of "+x.line, e, x.e)
	}
}

func TestANilSession(t *testing.T) {
	var s *office.Session
	for _, line := range []string{"part p ann 1", "undo", "questioned", "points s", "", " ", "x", strings.Repeat("x", api.MaxText+1)} {
		wantLine(t, s, line, "", api.ErrState)
	}
	wantSession(t, "of a nil session", s, nil)
}

func TestTheConsoleByTheDefinition(t *testing.T) {
	r := dice(5)
	reached := map[string]int{}
	words := []string{"p0", "p1", "c0", "t1", "h2", "g0", "g1", "s0", "s1", "ann", "3", "0", "9", "01", "-1", "", "#", "x"}
	for range 300 {
		l := someJournal(r, between(r, 0, 60))
		s := opened(t, l)
		for range between(r, 0, 60) {
			text := ""
			names := slowRegister(slowCounting(l))
			switch r.IntN(8) {
			case 0:
				text = one(r, []string{"valid", "questioned", "points", "stars", "why", "keepers", "undo", "part", "score", "change", "none", ""})
				for range between(r, 0, 3) {
					text += " " + one(r, words)
				}
			case 1:
				text = one(r, []string{"questioned", fmt.Sprint("valid p", r.IntN(9), " ", r.IntN(20)), fmt.Sprint("keepers p", r.IntN(9)), fmt.Sprint("stars g", r.IntN(9)), fmt.Sprint("points s", r.IntN(9)), fmt.Sprint("why s", r.IntN(9))})
				if len(names.Scores) > 0 && r.IntN(2) == 0 {
					text = one(r, []string{"points ", "why "}) + one(r, names.Scores).Name
				}
			default:
				text = line(someEvent(r, l))
			}
			result, e := slowDo(l, text)
			wantLine(t, s, text, result, e)
			word, _, _ := strings.Cut(text, " ")
			reached[fmt.Sprint(word, " ", e)]++
			if strings.HasPrefix(result, "done ") {
				l = append(l, event(len(l)+1, text))
			}
		}
		wantSession(t, "after many lines", s, l)
	}
	for _, x := range []string{"valid 0", "valid 7", "valid 10", "questioned 0", "questioned 25", "points 0", "points 10", "stars 0", "stars 7", "stars 10", "why 0", "why 10", "keepers 0", "keepers 10", "part 0", "hand 0", "cert 0", "withdraw 0", "test 0", "channel 0", "correct 0", "programme 0", "revise 0", "score 0", "appeal 0", "uphold 0", "change 0", "undo 0"} {
		want(t, fmt.Sprintf("whether %s is often reached (%d times)", x, reached[x]), reached[x] > 5, true)
	}
}
