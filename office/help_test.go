package office_test

import (
	"fmt"
	"math"
	"math/rand/v2"
	"slices"
	"strconv"
	"strings"
	"testing"

	"crumple/api"
	"crumple/office"
)

// longest is a name that could not be longer.
var longest = strings.Repeat("x", api.MaxName)

// badNames are none; as words of a line they have no space.
var badNames = []string{"9a", "_a", "a-b", "-", "#", "h#", "h\u00e9ad", "a\n", "\xff", "a\x00", longest + "x"}

// badKinds are none.
var badKinds = []string{"", "Part", "PART", "part ", " part", "parts", "par", "part\n", "points", "valid", "questioned", "stars", "why", "keepers", "score_", "redo", "\xff"}

// far are numbers that are out of all ranges.
var far = []int{math.MinInt, math.MinInt + 1, -2000000000, 2000000000, math.MaxInt}

// shapes is how many Names and Values the kinds have, in the order of the chapter.
var shapes = []struct {
	kind          string
	names, values int
}{
	{"part", 2, 1}, {"hand", 2, 1}, {"cert", 2, 2}, {"withdraw", 1, 1}, {"test", 2, 1}, {"channel", 2, 2}, {"correct", 1, 2}, {"programme", 1, 3}, {"revise", 1, 3}, {"score", 3, 1}, {"appeal", 1, 1}, {"uphold", 1, 1}, {"change", 1, 1}, {"undo", 0, 0},
}

// printed returns a result as text: nil and empty lists are alike.
func printed(x any) string { return fmt.Sprintf("%+v", x) }

// short returns the begin of what is printed.
func short(x any) string {
	s := printed(x)
	return s[:min(len(s), 199)]
}

// want compares two results as they are printed.
func want[T any](t *testing.T, what string, got, wanted T) {
	t.Helper()
	if a, b := printed(got), printed(wanted); a != b {
		t.Errorf("%.1999s: got %.999s, want %.999s", what, a, b)
	}
}

// wantError checks an error, and that a result beside one is its zero value.
func wantError[T any](t *testing.T, what string, got T, e, wanted api.Errno) {
	t.Helper()
	want(t, what+", the error", e, wanted)
	if wanted != api.OK {
		want(t, what+", beside the error", got, *new(T))
	}
}

// wantOK checks a result without an error.
func wantOK[T any](t *testing.T, what string, got T, e api.Errno, wanted T) {
	t.Helper()
	want(t, what+", the error", e, api.OK)
	want(t, what, got, wanted)
}

// dice are the same on each run.
func dice(seed uint64) *rand.Rand { return rand.New(rand.NewPCG(seed, 10)) }

// between returns a number from low to high.
func between(r *rand.Rand, low, high int) int { return low + r.IntN(high-low+1) }

// one returns an element of a list.
func one[A any](r *rand.Rand, l []A) A { return l[r.IntN(len(l))] }

// outside has numbers that are not from low to high.
func outside(low, high int) []int { return append([]int{low - 1, high + 1}, far...) }

// wrong is an argument with its first error; most have later errors, too.
type wrong[T any] struct {
	x T
	e api.Errno
}

// event returns the event of a line without a Number: the words before the first integer are its Names.
func event(number int, line string) api.Event {
	words := strings.Split(line, " ")
	e := api.Event{Number: number, Kind: words[0]}
	for _, word := range words[1:] {
		if n, err := strconv.Atoi(word); err == nil {
			e.Values = append(e.Values, n)
		} else {
			e.Names = append(e.Names, word)
		}
	}
	return e
}

// line returns the line of an event.
func line(e api.Event) string {
	words := append([]string{e.Kind}, e.Names...)
	for _, n := range e.Values {
		words = append(words, strconv.Itoa(n))
	}
	return strings.Join(words, " ")
}

// told returns the lines of events, as text.
func told(l []api.Event) string {
	var all []string
	for _, e := range l {
		all = append(all, line(e))
	}
	return strings.Join(all, "; ")
}

// then returns events with those of lines after them.
func then(l []api.Event, more ...string) []api.Event {
	l = slices.Clone(l)
	for _, s := range more {
		l = append(l, event(len(l)+1, s))
	}
	return l
}

// events returns the events of lines.
func events(l ...string) []api.Event { return then(nil, l...) }

// journal returns the events J of the chapter's examples.
func journal() []api.Event {
	return events("part p ann 1", "cert c p 1 9", "test t p 2", "channel h t 2 450", "programme g 2 200 700", "score s h g 3")
}

// numbered returns lines of which each has its number, from 0 on, in place of each %d.
func numbered(n int, format string) []string {
	var l []string
	for i := range n {
		l = append(l, strings.ReplaceAll(format, "%d", strconv.Itoa(i)))
	}
	return l
}

// scores returns lines of as many scores as wanted, of the channels h0, h1, .. by the programmes g0, g1, ..
func scores(n, programmes int) []string {
	var l []string
	for i := range n {
		l = append(l, fmt.Sprintf("score s%d h%d g%d 2", i, i/programmes, i%programmes))
	}
	return l
}

// full returns events after which all lists have as many elements as are permitted, on the days 1 and 2; h and g have as many versions.
func full() []api.Event {
	l := events(numbered(office.MaxParts, "part p%d ann 1")...)
	l = then(l, numbered(office.MaxCerts, "cert c%d p0 1 9")...)
	l = then(l, numbered(office.MaxTests, "test t%d p0 1")...)
	l = then(l, numbered(office.MaxChannels, "channel h%d t0 1 5")...)
	l = then(l, numbered(office.MaxProgrammes, "programme g%d 1 3 7")...)
	l = then(l, numbered(office.MaxVersions-1, "correct h0 1 %d")...)
	l = then(l, numbered(office.MaxVersions-1, "revise g0 1 %d 9")...)
	return then(l, scores(office.MaxScores, office.MaxProgrammes)...)
}

// handing returns as many events as wanted, in which a part is handed around.
func handing(n int) []api.Event {
	l := events("part p ann 1")
	for len(l) < n {
		l = then(l, "hand p "+[]string{"ann", "bob"}[len(l)%2]+" 1")
	}
	return l
}

// badEvents has events with the Number 7 in the order of their errors: most have those of a later part, too.
func badEvents() []wrong[api.Event] {
	var l []wrong[api.Event]
	add := func(e api.Errno, bad api.Event) { l = append(l, wrong[api.Event]{bad, e}) }
	for _, n := range outside(1, api.MaxEvents) {
		add(api.ErrRange, event(n, "part a ann 3"))
		add(api.ErrRange, event(n, "undo"))
		add(api.ErrRange, event(n, "Part a"))
		add(api.ErrRange, api.Event{Number: n, Names: []string{""}, Values: []int{-1}, Text: "x"})
	}
	for _, kind := range badKinds {
		add(api.ErrKind, api.Event{Number: 7, Kind: kind})
		add(api.ErrKind, api.Event{Number: 7, Kind: kind, Names: []string{"a", "ann"}, Values: []int{3}})
		add(api.ErrKind, api.Event{Number: 7, Kind: kind, Names: []string{""}, Values: []int{-1}, Text: "x"})
	}
	for _, x := range shapes {
		for _, more := range [][2]int{{1, 0}, {0, 1}, {-1, 0}, {0, -1}, {1, -1}, {-1, 1}, {5000, 0}, {0, 5000}} {
			names, values := x.names+more[0], x.values+more[1]
			if names < 0 || values < 0 {
				continue
			}
			add(api.ErrShape, api.Event{Number: 7, Kind: x.kind, Names: slices.Repeat([]string{"a"}, names), Values: make([]int, values)})
			add(api.ErrShape, api.Event{Number: 7, Kind: x.kind, Names: make([]string, names), Values: slices.Repeat(far[:1], values), Text: "x"})
		}
		for i := range x.names {
			for _, name := range append(badNames, "", "a b", " a") {
				bad := api.Event{Number: 7, Kind: x.kind, Names: slices.Repeat([]string{"a"}, x.names), Values: make([]int, x.values)}
				bad.Names[i] = name
				add(api.ErrName, bad)
				bad.Values, bad.Text = slices.Repeat(far[4:], x.values), "x"
				add(api.ErrName, bad)
			}
		}
		for i := range x.values {
			for _, n := range outside(0, api.MaxNumber) {
				bad := api.Event{Number: 7, Kind: x.kind, Names: slices.Repeat([]string{"a"}, x.names), Values: make([]int, x.values)}
				bad.Values[i] = n
				add(api.ErrRange, bad)
				bad.Text = " "
				add(api.ErrRange, bad)
			}
		}
		for _, text := range []string{"x", " ", "\x00", strings.Repeat("x", 5000)} {
			bad := api.Event{Number: 7, Kind: x.kind, Names: slices.Repeat([]string{"a"}, x.names), Values: make([]int, x.values), Text: text}
			add(api.ErrForm, bad)
		}
	}
	return l
}

// refused has lines of events that are not accepted after those before them, in the order of their errors: most would have later errors, too.
func refused() []struct {
	before []api.Event
	line   string
	e      api.Errno
} {
	type refusal = struct {
		before []api.Event
		line   string
		e      api.Errno
	}
	var l []refusal
	add := func(e api.Errno, before []api.Event, lines ...string) {
		for _, line := range lines {
			l = append(l, refusal{before, line, e})
		}
	}
	j := journal()
	withdrawn := then(j, "withdraw c 3")
	appealed := then(j, "appeal s 3")
	add(api.ErrEmpty, nil, "undo")
	add(api.ErrEmpty, events("part p ann 1", "undo"), "undo")
	add(api.ErrEmpty, then(j, slices.Repeat([]string{"undo"}, 6)...), "undo")
	add(api.ErrRule, withdrawn, "undo")
	add(api.ErrRule, then(withdrawn, "part q ann 3", "undo"), "undo")
	add(api.ErrRule, then(appealed, "uphold s 3"), "undo")
	add(api.ErrRule, then(appealed, "change s 3"), "undo")
	// A day that is over comes before all that is unknown.
	add(api.ErrState, j, "part p ann 2", "part q ann 0", "hand x ann 2", "hand p ann 2", "cert c x 2 1", "withdraw x 0", "test t x 2", "channel h x 2 0", "correct x 2 0", "programme g 2 5 5", "revise x 2 5 4", "score s x y 2", "score s h g 0", "appeal x 2", "uphold s 2", "change s 1")
	add(api.ErrState, then(j, "part q ann 4", "undo"), "part q ann 2")
	add(api.ErrUnknown, nil, "hand p ann 0", "cert c p 9 1", "withdraw c 0", "test t p 0", "channel h t 0 0", "correct h 0 0", "revise g 0 5 4", "score s h g 0", "appeal s 0", "uphold s 0", "change s 0")
	// Each list has names of its own.
	add(api.ErrUnknown, j, "hand c bob 3", "hand ann bob 3", "cert c q 3 1", "cert d c 3 9", "withdraw p 3", "withdraw d 3", "test t q 3", "test u c 3", "channel h p 3 0", "channel k x 3 0", "correct t 3 0", "correct k 3 0", "revise h 3 1 2", "revise k 3 2 1", "score s t g 3", "score s h h 3", "score s g h 3", "score u x g 3", "score u h x 3", "appeal h 3", "appeal u 3", "uphold g 3", "change c 3")
	add(api.ErrUnknown, then(j, "undo"), "appeal s 3")
	add(api.ErrTwice, j, "part p ann 3", "part p bob 9", "cert c p 3 9", "cert c p 3 2", "test t p 3", "test t p 10", "channel h t 3 0", "programme g 3 1 2", "programme g 3 2 2", "score s h g 3")
	add(api.ErrTwice, withdrawn, "score s h g 3", "test t p 3")
	add(api.ErrHeld, j, "hand p ann 3", "hand p ann 999999999")
	add(api.ErrHeld, then(j, "hand p bob 4"), "hand p bob 4", "hand p bob 7")
	add(api.ErrSpan, j, "cert d p 3 2", "cert d p 999999999 0", "programme k 3 7 7", "programme k 3 7 6", "programme k 3 999999999 0", "revise g 3 7 7", "revise g 3 999999999 999999999")
	add(api.ErrOver, withdrawn, "withdraw c 3", "withdraw c 9")
	add(api.ErrRule, j, "test u p 10", "test u p 999999999")
	add(api.ErrRule, withdrawn, "test u p 3", "test u p 9")
	add(api.ErrRule, then(j, "part q ann 3"), "test u q 3")
	add(api.ErrRule, then(j, "part q ann 3", "cert d q 4 5"), "test u q 6")
	add(api.ErrRule, then(j, "cert d p 3 20", "withdraw d 3"), "test u p 10")
	add(api.ErrRight, then(withdrawn, "programme k 3 1 2"), "score u h k 3")
	add(api.ErrRight, withdrawn, "score u h g 3")
	add(api.ErrRight, then(appealed, "withdraw c 3"), "change s 3")
	add(api.ErrConflict, j, "score u h g 3")
	add(api.ErrConflict, then(appealed, "change s 3", "correct h 3 9", "revise g 3 8 9"), "score u h g 9")
	add(api.ErrOver, appealed, "appeal s 3")
	add(api.ErrOver, then(appealed, "uphold s 3"), "appeal s 3")
	add(api.ErrOver, then(appealed, "change s 3"), "appeal s 3")
	add(api.ErrOpen, j, "uphold s 3", "change s 3")
	add(api.ErrOpen, withdrawn, "uphold s 3", "change s 3")
	add(api.ErrOpen, then(appealed, "uphold s 3"), "uphold s 3", "change s 3")
	add(api.ErrOpen, then(appealed, "change s 3"), "uphold s 3", "change s 3")
	add(api.ErrOpen, then(appealed, "undo"), "uphold s 3")
	// All lists are full: what is wrong beside that comes first.
	f := full()
	add(api.ErrState, f, "part x ann 1", "correct h0 1 5", "revise g0 1 5 5")
	add(api.ErrUnknown, f, "cert x y 2 9", "test x y 2", "channel x y 2 0", "score x h0 y 2", "score x y g0 2")
	add(api.ErrTwice, f, "part p15 ann 2", "cert c0 p0 2 1", "test t31 p1 2", "channel h31 t0 2 0", "programme g7 2 5 5", "score s63 h0 g0 2")
	add(api.ErrSpan, f, "cert x p0 2 1", "programme x 2 5 5", "revise g0 2 6 5")
	add(api.ErrRule, f, "test x p1 2", "test x p0 10")
	add(api.ErrConflict, f, "score x h0 g0 2", "score x h7 g7 2")
	add(api.ErrRight, then(f, "withdraw c31 2"), "score x h8 g0 2", "score x h0 g0 2")
	add(api.ErrMany, f, "part x ann 2", "cert x p1 2 2", "test x p0 2", "test x p0 9", "channel x t31 2 0", "correct h0 2 5", "programme x 2 5 6", "revise g0 2 5 6", "score x h8 g0 2", "score x h31 g7 999999999")
	return l
}

// badJournals has events with the number of the first one that is wrong, and its error.
func badJournals() []struct {
	l      []api.Event
	number int
	e      api.Errno
} {
	type bad = struct {
		l      []api.Event
		number int
		e      api.Errno
	}
	long := handing(api.MaxEvents + 1)
	l := []bad{
		{long, 0, api.ErrMany}, {make([]api.Event, api.MaxEvents+1), 0, api.ErrMany}, {slices.Repeat(journal(), 1000), 0, api.ErrMany},
		{journal()[1:], 1, api.ErrOrder}, {slices.Concat(journal()[:3], journal()[2:]), 4, api.ErrOrder}, {slices.Concat(journal(), journal()), 7, api.ErrOrder}, {slices.Concat(journal()[:3], journal()[4:]), 4, api.ErrOrder}, {[]api.Event{event(2, "undo")}, 1, api.ErrOrder}, {[]api.Event{event(1000, "hand p ann 1")}, 1, api.ErrOrder},
		{then(handing(api.MaxEvents-1), "hand p ann 1"), api.MaxEvents, api.ErrHeld}, {make([]api.Event, api.MaxEvents), 1, api.ErrRange},
	}
	for _, b := range badEvents() {
		l = append(l, bad{append(journal(), b.x), 7, b.e}, bad{append(journal(), b.x, event(8, "undo"), api.Event{}), 7, b.e})
	}
	for _, x := range refused() {
		more := then(x.before, x.line)
		l = append(l, bad{more, len(more), x.e})
		if len(more) < 100 {
			l = append(l, bad{then(more, "hand x", "undo", "nothing"), len(more), x.e})
		}
	}
	return l
}

// fresh returns a name that is often new, and sometimes taken.
func fresh(r *rand.Rand, letter string) string {
	return letter + strconv.Itoa(r.IntN(9))
}

// known returns a name that is mostly one of some, and sometimes none of them.
func known(r *rand.Rand, l []string, letter string) string {
	if len(l) == 0 || r.IntN(12) == 0 {
		return fresh(r, letter)
	}
	return one(r, l)
}

// created returns the names that events of a kind have given.
func created(l []api.Event, kind string) []string {
	var names []string
	for _, e := range l {
		if e.Kind == kind {
			names = append(names, e.Names[0])
		}
	}
	return names
}

// someEvent returns an event that is often accepted after events.
func someEvent(r *rand.Rand, l []api.Event) api.Event {
	counting := slowCounting(l)
	day := slowDay(counting) + one(r, []int{0, 0, 0, 0, 0, 1, 1, 2, 5, -1})
	name := func(kind, letter string) string { return known(r, created(counting, kind), letter) }
	part, cert, test, channel, programme, score := name("part", "p"), name("cert", "c"), name("test", "t"), name("channel", "h"), name("programme", "g"), name("score", "s")
	keeper, value := one(r, []string{"ann", "bob", "cid"}), between(r, 0, 12)
	best := between(r, 0, 6)
	worst := best + between(r, 0, 6)
	x := one(r, shapes)
	// Most events rest on others that are frequent, too.
	switch between(r, 0, 11) {
	case 0, 1:
		x.kind = "score"
	case 2, 3:
		x.kind = "channel"
	case 4, 5:
		x.kind = one(r, []string{"test", "cert", "appeal", "appeal", "uphold", "change"})
	}
	text := ""
	switch x.kind {
	case "part":
		text = fmt.Sprint("part ", fresh(r, "p"), " ", keeper, " ", day)
	case "hand":
		text = fmt.Sprint("hand ", part, " ", keeper, " ", day)
	case "cert":
		text = fmt.Sprint("cert ", fresh(r, "c"), " ", part, " ", day, " ", day+one(r, []int{-1, 0, 2, 5, 20, 20, 20}))
	case "test":
		text = fmt.Sprint("test ", fresh(r, "t"), " ", part, " ", day)
	case "channel":
		text = fmt.Sprint("channel ", fresh(r, "h"), " ", test, " ", day, " ", value)
	case "correct":
		text = fmt.Sprint("correct ", channel, " ", day, " ", value)
	case "programme":
		text = fmt.Sprint("programme ", fresh(r, "g"), " ", day, " ", best, " ", worst)
	case "revise":
		text = fmt.Sprint("revise ", programme, " ", day, " ", best, " ", worst)
	case "score":
		text = fmt.Sprint("score ", fresh(r, "s"), " ", channel, " ", programme, " ", day)
	case "undo":
		text = "undo"
	case "withdraw":
		text = fmt.Sprint("withdraw ", cert, " ", day)
	default:
		text = fmt.Sprint(x.kind, " ", score, " ", day)
	}
	return event(len(l)+1, text)
}

// someJournal returns up to some events that are accepted.
func someJournal(r *rand.Rand, most int) []api.Event {
	var l []api.Event
	for tries := 0; len(l) < most && tries < 4*most; tries++ {
		e := someEvent(r, l)
		if len(e.Values) > 0 && e.Values[0] < 0 {
			continue
		}
		// An undo takes back much work, and a withdrawn certificate holds much of it up.
		if (e.Kind == "undo" || e.Kind == "withdraw") && r.IntN(3) > 0 {
			continue
		}
		if slowRefusal(l, e) == api.OK {
			l = append(l, e)
		}
	}
	return l
}
