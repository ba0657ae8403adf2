package office_test

import (
	"fmt"
	"slices"
	"strings"
	"testing"

	"crumple/api"
	"crumple/office"
)

// P10.1 (registers): each function with ordinary inputs, at its limits, and with its errors in their order.

// replayed is a register with a number, as Replay returns both.
type replayed struct {
	r      office.Register
	number int
}

func TestCheckEvent(t *testing.T) {
	for _, x := range shapes {
		for _, name := range []string{"a", "Z", "a_9", longest, "undo", "part"} {
			for _, value := range []int{0, 1, api.MaxNumber} {
				for _, number := range []int{1, 7, api.MaxEvents} {
					e := api.Event{Number: number, Kind: x.kind, Names: slices.Repeat([]string{name}, x.names), Values: slices.Repeat([]int{value}, x.values)}
					want(t, fmt.Sprintf("CheckEvent of %v", e), office.CheckEvent(e), api.OK)
				}
			}
		}
	}
	want(t, "CheckEvent of an undo with empty lists", office.CheckEvent(api.Event{Number: 1, Kind: "undo", Names: []string{}, Values: []int{}}), api.OK)
	for _, b := range badEvents() {
		want(t, "CheckEvent of "+short(b.x), office.CheckEvent(b.x), b.e)
		want(t, "the second reading of "+short(b.x), slowForm(b.x), b.e)
	}
	want(t, "CheckEvent of nothing", office.CheckEvent(api.Event{}), api.ErrRange)
}

// register returns the register after J, with the changes of a function.
func register(change func(r *office.Register)) office.Register {
	r := office.Register{
		Day:        3,
		Parts:      []office.Part{{Name: "p", Keeper: "ann"}},
		Certs:      []office.Cert{{Name: "c", Part: "p", From: 1, Until: 9}},
		Tests:      []office.Test{{Name: "t", Part: "p", Cert: "c", Day: 2}},
		Channels:   []office.Channel{{Name: "h", Test: "t", Values: []int{450}}},
		Programmes: []office.Programme{{Name: "g", Scales: []office.Scale{{Best: 200, Worst: 700}}}},
		Scores:     []office.Score{{Name: "s", Channel: "h", Programme: "g", Points: 500}},
	}
	change(&r)
	return r
}

func TestReplay(t *testing.T) {
	later := func(day int, change func(r *office.Register)) office.Register {
		return register(func(r *office.Register) {
			r.Day = day
			change(r)
		})
	}
	same := func(*office.Register) {}
	score := office.Score{Name: "s", Channel: "h", Programme: "g", Points: 500}
	for _, x := range []struct {
		l []api.Event
		r office.Register
	}{
		{nil, office.Register{}}, {events("part p ann 0"), office.Register{Parts: []office.Part{{Name: "p", Keeper: "ann"}}}}, {journal(), register(same)},
		{then(journal(), "hand p bob 4"), later(4, func(r *office.Register) { r.Parts[0].Keeper = "bob" })},
		{then(journal(), "hand p bob 4", "hand p ann 4"), later(4, same)},
		{then(journal(), "part t t 999999999"), later(api.MaxNumber, func(r *office.Register) { r.Parts = append(r.Parts, office.Part{Name: "t", Keeper: "t"}) })},
		{then(journal(), "cert d p 5 5"), later(5, func(r *office.Register) {
			r.Certs = append(r.Certs, office.Cert{Name: "d", Part: "p", From: 5, Until: 5})
		})},
		{then(journal(), "withdraw c 3"), register(func(r *office.Register) { r.Certs[0].Withdrawn = true })},
		// A further certificate is the valid one from its day on; when it is withdrawn, or over, it is the first one again.
		{then(journal(), "cert d p 3 20", "test u p 5", "withdraw d 6", "test v p 9"), later(9, func(r *office.Register) {
			r.Certs = append(r.Certs, office.Cert{Name: "d", Part: "p", From: 3, Until: 20, Withdrawn: true})
			r.Tests = append(r.Tests, office.Test{Name: "u", Part: "p", Cert: "d", Day: 5}, office.Test{Name: "v", Part: "p", Cert: "c", Day: 9})
		})},
		{then(journal(), "cert d p 3 4", "test u p 4", "test v p 5"), later(5, func(r *office.Register) {
			r.Certs = append(r.Certs, office.Cert{Name: "d", Part: "p", From: 3, Until: 4})
			r.Tests = append(r.Tests, office.Test{Name: "u", Part: "p", Cert: "d", Day: 4}, office.Test{Name: "v", Part: "p", Cert: "c", Day: 5})
		})},
		{then(journal(), "part q q 3", "cert d q 3 20", "test u p 3"), register(func(r *office.Register) {
			r.Parts = append(r.Parts, office.Part{Name: "q", Keeper: "q"})
			r.Certs = append(r.Certs, office.Cert{Name: "d", Part: "q", From: 3, Until: 20})
			r.Tests = append(r.Tests, office.Test{Name: "u", Part: "p", Cert: "c", Day: 3})
		})},
		{then(journal(), "correct h 3 300"), register(func(r *office.Register) { r.Channels[0].Values = []int{450, 300} })},
		{then(journal(), "correct h 3 300", "correct h 3 450", "revise g 3 0 900"), register(func(r *office.Register) {
			r.Channels[0].Values = []int{450, 300, 450}
			r.Programmes[0].Scales = append(r.Programmes[0].Scales, office.Scale{Worst: 900})
		})},
		{then(journal(), "correct h 3 300", "appeal s 3", "change s 4"), later(4, func(r *office.Register) {
			r.Channels[0].Values = []int{450, 300}
			r.Scores[0] = office.Score{Name: "s", Channel: "h", Programme: "g", Version: 1, Points: 800, State: office.Changed}
		})},
		{then(journal(), "correct h 3 300", "appeal s 3", "uphold s 4"), later(4, func(r *office.Register) {
			r.Channels[0].Values = []int{450, 300}
			r.Scores[0].State = office.Upheld
		})},
		{then(journal(), "appeal s 3"), register(func(r *office.Register) { r.Scores[0].State = office.Appealed })},
		{then(journal(), "appeal s 3", "withdraw c 3", "uphold s 3"), register(func(r *office.Register) {
			r.Certs[0].Withdrawn = true
			r.Scores[0].State = office.Upheld
		})},
		// A channel may be added to a test that is questioned, and corrected.
		{then(journal(), "withdraw c 3", "channel k t 3 7", "correct k 3 8"), register(func(r *office.Register) {
			r.Certs[0].Withdrawn = true
			r.Channels = append(r.Channels, office.Channel{Name: "k", Test: "t", Values: []int{7, 8}})
		})},
		{then(journal(), "revise g 3 400 500", "channel k t 3 450", "score u k g 3"), register(func(r *office.Register) {
			r.Programmes[0].Scales = append(r.Programmes[0].Scales, office.Scale{Best: 400, Worst: 500})
			r.Channels = append(r.Channels, office.Channel{Name: "k", Test: "t", Values: []int{450}})
			r.Scores = append(r.Scores, office.Score{Name: "u", Channel: "k", Programme: "g", Rule: 1, Points: 500})
		})},
		// Undo takes back one event after the other, also those of days that are later; it does not count itself.
		{then(journal(), "undo"), register(func(r *office.Register) { r.Day, r.Scores = 2, nil })},
		{then(journal(), "undo", "undo", "undo", "undo", "undo", "undo"), office.Register{}},
		{then(journal(), "undo", "undo", "programme g 2 200 700", "score s h g 3"), register(same)},
		{then(journal(), "correct h 7 1", "revise g 8 1 2", "part q ann 9", "undo", "undo", "undo", "part q ann 3"), register(func(r *office.Register) { r.Parts = append(r.Parts, office.Part{Name: "q", Keeper: "ann"}) })},
		{then(journal(), "withdraw c 3", "hand p bob 7", "undo"), register(func(r *office.Register) { r.Certs[0].Withdrawn = true })},
		{then(journal(), "appeal s 3", "undo"), register(func(r *office.Register) { r.Scores[0] = score })},
		{then(journal(), "correct h 3 300", "undo", "correct h 3 301"), register(func(r *office.Register) { r.Channels[0].Values = []int{450, 301} })},
	} {
		r, number, e := office.Replay(x.l)
		wantOK(t, "Replay of "+told(x.l), replayed{r, number}, e, replayed{x.r, 0})
		want(t, "the second reading of "+told(x.l), slowRegister(slowCounting(x.l)), x.r)
	}
}

func TestRefusedEvents(t *testing.T) {
	for _, x := range refused() {
		what := x.line + " after " + told(x.before)
		_, _, e := office.Replay(x.before)
		want(t, "Replay of what is before "+what, e, api.OK)
		bad := event(len(x.before)+1, x.line)
		want(t, "Accepts of "+what, office.Accepts(x.before, bad), x.e)
		want(t, "the second reading of "+what, slowRefusal(x.before, bad), x.e)
		// A wrong Number comes before all that is wrong after it, and what is wrong with the event alone before all.
		for _, number := range []int{1, len(x.before), len(x.before) + 2, api.MaxEvents} {
			if number != len(x.before)+1 && number != 0 {
				want(t, fmt.Sprintf("Accepts with the Number %d of %s", number, what), office.Accepts(x.before, event(number, x.line)), api.ErrOrder)
			}
		}
		bad.Text = "x"
		want(t, "Accepts with a Text of "+what, office.Accepts(x.before, bad), api.ErrForm)
	}
}

func TestAccepts(t *testing.T) {
	for _, x := range []struct {
		before []api.Event
		line   string
	}{
		{nil, "part p ann 0"}, {nil, "programme g 0 0 1"}, {nil, "part p p 999999999"}, {journal(), "undo"}, {journal(), "hand p p 3"}, {journal(), "part ann p 3"}, {journal(), "cert d p 3 3"}, {journal(), "test u p 9"}, {journal(), "appeal s 3"}, {then(journal(), "appeal s 3"), "change s 999999999"},
		{then(journal(), "withdraw c 3"), "appeal s 3"}, {then(journal(), "withdraw c 3", "appeal s 3"), "uphold s 3"}, {then(journal(), "withdraw c 3", "appeal s 3"), "undo"}, {then(journal(), "withdraw c 3", "cert d p 3 9"), "test u p 3"},
		{handing(api.MaxEvents - 1), "undo"}, {handing(api.MaxEvents - 1), "hand p bob 1"},
	} {
		want(t, "Accepts of "+x.line+" after "+told(x.before), office.Accepts(x.before, event(len(x.before)+1, x.line)), api.OK)
	}
	for _, e := range []api.Event{event(1, "undo"), event(api.MaxEvents, "hand p bob 1"), event(2, "hand p ann 0")} {
		want(t, "Accepts after as many events as are permitted", office.Accepts(handing(api.MaxEvents), e), api.ErrMany)
	}
	want(t, "Accepts of the Number after the last one that is permitted", office.Accepts(handing(api.MaxEvents), event(api.MaxEvents+1, "undo")), api.ErrRange)
	many := handing(api.MaxEvents)
	for i, b := range badEvents() {
		want(t, "Accepts of "+short(b.x), office.Accepts(journal(), b.x), b.e)
		if i%20 == 0 {
			want(t, "Accepts after many events of "+short(b.x), office.Accepts(many, b.x), b.e)
		}
	}
}

// wantJournalErrors checks that all functions of events return an error, whatever their other arguments are.
func wantJournalErrors(t *testing.T, l []api.Event, number int, wanted api.Errno) {
	t.Helper()
	what := fmt.Sprintf(" of %d events to %s", len(l), short(l[max(0, number-1):]))
	r, n, e := office.Replay(l)
	wantError(t, "Replay"+what, r, e, wanted)
	want(t, "the number of Replay"+what, n, number)
	for _, more := range []api.Event{event(len(l)+1, "part x ann 999999999"), event(0, "nothing"), event(len(l)+1, "undo")} {
		want(t, "Accepts"+what, office.Accepts(l, more), wanted)
	}
	for _, day := range []int{0, 3, -1, far[4]} {
		r, e := office.AsOf(l, day)
		wantError(t, "AsOf"+what, r, e, wanted)
		cert, e := office.Valid(l, "p", day)
		wantError(t, "Valid"+what, cert, e, wanted)
	}
	questioned, e := office.Questioned(l)
	wantError(t, "Questioned"+what, questioned, e, wanted)
	for _, name := range []string{"p", "t", "g", "s", "nobody", ""} {
		cert, e := office.Valid(l, name, 1)
		wantError(t, "Valid"+what, cert, e, wanted)
		points, e := office.Again(l, name)
		wantError(t, "Again"+what, points, e, wanted)
		points, e = office.Newer(l, name)
		wantError(t, "Newer"+what, points, e, wanted)
		mean, e := office.Mean(l, name)
		wantError(t, "Mean"+what, mean, e, wanted)
		stars, e := office.Stars(l, name)
		wantError(t, "Stars"+what, stars, e, wanted)
		chain, e := office.Provenance(l, name)
		wantError(t, "Provenance"+what, chain, e, wanted)
		want(t, "CheckProvenance"+what, office.CheckProvenance(l, name, office.Chain{}), wanted)
		mark, e := office.Mark(l, name, api.Key{1})
		wantError(t, "Mark"+what, mark, e, wanted)
		keepers, e := office.Custody(l, name)
		wantError(t, "Custody"+what, keepers, e, wanted)
		story, e := office.Story(l, name)
		wantError(t, "Story"+what, story, e, wanted)
	}
}

func TestErrorsOfJournals(t *testing.T) {
	for _, b := range badJournals() {
		wantJournalErrors(t, b.l, b.number, b.e)
	}
}

// wantFull checks that a line is refused with ErrMany when there are as many elements as are permitted, and only then.
func wantFull(t *testing.T, l []api.Event, last, more string) {
	t.Helper()
	want(t, "Accepts of "+last, office.Accepts(l, event(len(l)+1, last)), api.OK)
	l = then(l, last)
	want(t, "Accepts of "+more, office.Accepts(l, event(len(l)+1, more)), api.ErrMany)
	l = then(l, "undo")
	want(t, "Accepts after an undo of "+more, office.Accepts(l, event(len(l)+1, more)), api.OK)
}

func TestAsManyElementsAsArePermitted(t *testing.T) {
	l := full()
	r, number, e := office.Replay(l)
	wantOK(t, "Replay of full lists", replayed{r, number}, e, replayed{slowRegister(l), 0})
	want(t, "how many", []int{len(r.Parts), len(r.Certs), len(r.Tests), len(r.Channels), len(r.Programmes), len(r.Scores), len(r.Channels[0].Values), len(r.Programmes[0].Scales)}, []int{16, 32, 32, 32, 8, 64, 8, 8})
	wantFull(t, events(numbered(office.MaxParts-1, "part p%d ann 1")...), "part x ann 1", "part y ann 1")
	p := events("part p ann 1", "cert c p 1 9")
	wantFull(t, then(p, numbered(office.MaxCerts-2, "cert c%d p 1 9")...), "cert x p 1 9", "cert y p 1 9")
	wantFull(t, then(p, numbered(office.MaxTests-1, "test t%d p 1")...), "test x p 1", "test y p 1")
	tested := then(p, "test t p 1")
	wantFull(t, then(tested, numbered(office.MaxChannels-1, "channel h%d t 1 0")...), "channel x t 1 0", "channel y t 1 0")
	wantFull(t, events(numbered(office.MaxProgrammes-1, "programme g%d 1 0 1")...), "programme x 1 0 1", "programme y 1 0 1")
	wantFull(t, then(events("programme g 1 0 1"), slices.Repeat([]string{"revise g 1 0 1"}, office.MaxVersions-2)...), "revise g 1 0 1", "revise g 1 0 2")
	wantFull(t, then(tested, slices.Concat([]string{"channel h t 1 0"}, slices.Repeat([]string{"correct h 1 0"}, office.MaxVersions-2))...), "correct h 1 0", "correct h 1 1")
	all := then(then(tested, numbered(9, "channel h%d t 1 0")...), numbered(office.MaxProgrammes, "programme g%d 1 0 1")...)
	wantFull(t, then(all, scores(office.MaxScores-1, office.MaxProgrammes)...), "score x h8 g7 2", "score y h8 g6 2")
	// Other elements of which there are many do not count.
	want(t, "Accepts of a second programme after eight versions of the first one", office.Accepts(then(events("programme g 1 0 1"), slices.Repeat([]string{"revise g 1 0 1"}, 7)...), event(9, "programme h 1 0 1")), api.OK)
}

func TestAsManyEventsAsArePermitted(t *testing.T) {
	l := handing(api.MaxEvents)
	r, number, e := office.Replay(l)
	wantOK(t, "Replay of 1000 events", replayed{r, number}, e, replayed{office.Register{Day: 1, Parts: []office.Part{{Name: "p", Keeper: "bob"}}}, 0})
	keepers, e := office.Custody(l, "p")
	want(t, "Custody of 1000 events", e, api.OK)
	want(t, "how many", len(keepers), api.MaxEvents)
	undone := events()
	for len(undone) < api.MaxEvents {
		undone = then(undone, "part p ann 1", "undo")
	}
	r, number, e = office.Replay(undone)
	wantOK(t, "Replay of 500 events that are undone", replayed{r, number}, e, replayed{})
}

func TestAsOf(t *testing.T) {
	l := then(journal(), "correct h 3 300", "appeal s 5", "change s 5", "hand p bob 9", "undo", "hand p cid 8")
	for _, x := range []struct {
		day, count int
	}{{0, 0}, {1, 2}, {2, 5}, {3, 7}, {4, 7}, {5, 9}, {7, 9}, {8, 12}, {api.MaxNumber, 12}} {
		wanted, _, e := office.Replay(l[:x.count])
		want(t, "Replay", e, api.OK)
		r, e := office.AsOf(l, x.day)
		wantOK(t, fmt.Sprintf("AsOf %d", x.day), r, e, wanted)
	}
	// What is undone does not count on its day either.
	r, e := office.AsOf(then(journal(), "undo", "undo"), 2)
	wantOK(t, "AsOf after undo", r, e, slowRegister(journal()[:4]))
	for _, day := range []int{0, api.MaxNumber} {
		r, e := office.AsOf(nil, day)
		wantOK(t, "AsOf without events", r, e, office.Register{})
	}
	for _, day := range outside(0, api.MaxNumber) {
		r, e := office.AsOf(journal(), day)
		wantError(t, fmt.Sprintf("AsOf %d", day), r, e, api.ErrRange)
	}
}

func TestValid(t *testing.T) {
	two := then(journal(), "cert d p 3 20")
	apart := then(journal(), "part q ann 4", "cert d p 5 6", "cert e q 5 7", "cert f p 6 7", "withdraw f 7", "part x ann 7")
	for _, x := range []struct {
		l    []api.Event
		part string
		day  int
		cert string
		e    api.Errno
	}{
		{journal(), "p", 1, "c", api.OK}, {journal(), "p", 9, "c", api.OK}, {journal(), "p", 0, "", api.ErrNone}, {journal(), "p", 10, "", api.ErrNone}, {journal(), "p", api.MaxNumber, "", api.ErrNone},
		{two, "p", 2, "c", api.OK}, {two, "p", 3, "d", api.OK}, {two, "p", 5, "d", api.OK}, {two, "p", 20, "d", api.OK}, {two, "p", 21, "", api.ErrNone}, {then(two, "withdraw d 4"), "p", 5, "c", api.OK}, {then(two, "withdraw d 4"), "p", 10, "", api.ErrNone}, {then(two, "withdraw c 4"), "p", 2, "", api.ErrNone}, {then(two, "withdraw c 4"), "p", 5, "d", api.OK}, {then(two, "undo"), "p", 5, "c", api.OK},
		{apart, "p", 4, "c", api.OK}, {apart, "p", 5, "d", api.OK}, {apart, "p", 6, "d", api.OK}, {apart, "p", 7, "c", api.OK}, {apart, "q", 4, "", api.ErrNone}, {apart, "q", 7, "e", api.OK}, {apart, "x", 7, "", api.ErrNone},
		{journal(), "q", 1, "", api.ErrUnknown}, {journal(), "c", -1, "", api.ErrUnknown}, {journal(), "", 1, "", api.ErrUnknown}, {nil, "p", far[0], "", api.ErrUnknown}, {journal(), "ann", 10, "", api.ErrUnknown},
		{journal(), "p", -1, "", api.ErrRange}, {journal(), "p", api.MaxNumber + 1, "", api.ErrRange}, {apart, "x", far[4], "", api.ErrRange},
	} {
		cert, e := office.Valid(x.l, x.part, x.day)
		what := fmt.Sprintf("Valid of %q on %d after %s", x.part, x.day, told(x.l))
		wantError(t, what, cert, e, x.e)
		want(t, what, cert, x.cert)
	}
}

func TestQuestioned(t *testing.T) {
	many := then(journal(), "part q ann 3", "cert d q 3 20", "test u q 3", "test v p 3", "cert e p 4 20", "test w p 4", "test x q 4")
	for _, x := range []struct {
		l     []api.Event
		tests []string
	}{
		{nil, nil}, {journal(), nil}, {then(journal(), "withdraw c 3"), []string{"t"}}, {many, nil}, {then(many, "withdraw c 5"), []string{"t", "v"}}, {then(many, "withdraw d 5"), []string{"u", "x"}}, {then(many, "withdraw e 5"), []string{"w"}}, {then(many, "withdraw e 5", "withdraw d 5"), []string{"u", "w", "x"}}, {then(many, "withdraw e 5", "withdraw c 5", "withdraw d 6"), []string{"t", "u", "v", "w", "x"}},
		// A test that comes later rests on another certificate.
		{then(journal(), "cert d p 3 20", "withdraw d 4", "test u p 4"), nil}, {then(journal(), "cert d p 3 20", "withdraw c 4", "test u p 4"), []string{"t"}},
	} {
		tests, e := office.Questioned(x.l)
		wantOK(t, "Questioned after "+told(x.l), tests, e, x.tests)
	}
}

func TestCustody(t *testing.T) {
	l := then(journal(), "hand p bob 4", "part q eve 4", "hand q ann 4", "hand p ann 4", "hand p bob 7", "undo", "hand p cid 8")
	for _, x := range []struct {
		l       []api.Event
		part    string
		keepers []office.Keeper
		e       api.Errno
	}{
		{journal(), "p", []office.Keeper{{Name: "ann", Day: 1}}, api.OK}, {then(journal(), "hand p bob 4"), "p", []office.Keeper{{Name: "ann", Day: 1}, {Name: "bob", Day: 4}}, api.OK},
		{l, "p", []office.Keeper{{Name: "ann", Day: 1}, {Name: "bob", Day: 4}, {Name: "ann", Day: 4}, {Name: "cid", Day: 8}}, api.OK}, {l, "q", []office.Keeper{{Name: "eve", Day: 4}, {Name: "ann", Day: 4}}, api.OK},
		{events("part p ann 1", "hand p bob 2", "undo", "undo", "part p cid 3"), "p", []office.Keeper{{Name: "cid", Day: 3}}, api.OK},
		{l, "ann", nil, api.ErrUnknown}, {l, "c", nil, api.ErrUnknown}, {l, "", nil, api.ErrUnknown}, {nil, "p", nil, api.ErrUnknown}, {events("part p ann 1", "undo"), "p", nil, api.ErrUnknown},
	} {
		keepers, e := office.Custody(x.l, x.part)
		wantError(t, "Custody of "+x.part, keepers, e, x.e)
		want(t, "Custody of "+x.part+" after "+told(x.l), keepers, x.keepers)
	}
}

func TestStory(t *testing.T) {
	l := then(journal(), "part q eve 3", "hand q ann 3", "cert d q 3 9", "test u q 3", "channel k u 3 5", "programme f 3 1 2", "score r k f 3", "test v p 3", "channel i v 3 9", "score y i g 3", "appeal y 3", "uphold y 3", "appeal s 3", "withdraw d 3", "cert e p 4 9", "hand p bob 4", "correct k 4 1", "correct i 4 2", "correct h 4 3", "revise f 4 5 6", "undo", "revise f 4 5 7", "change s 4", "appeal r 5", "withdraw c 6")
	shared := "part p ann 1; cert c p 1 9; "
	for _, x := range []struct {
		test, story string
		e           api.Errno
	}{
		{"t", shared + "test t p 2; channel h t 2 450; programme g 2 200 700; score s h g 3; programme f 3 1 2; appeal s 3; cert e p 4 9; hand p bob 4; correct h 4 3; revise f 4 5 7; change s 4; withdraw c 6", api.OK},
		{"v", shared + "programme g 2 200 700; programme f 3 1 2; test v p 3; channel i v 3 9; score y i g 3; appeal y 3; uphold y 3; cert e p 4 9; hand p bob 4; correct i 4 2; revise f 4 5 7; withdraw c 6", api.OK},
		{"u", "programme g 2 200 700; part q eve 3; hand q ann 3; cert d q 3 9; test u q 3; channel k u 3 5; programme f 3 1 2; score r k f 3; withdraw d 3; correct k 4 1; revise f 4 5 7; appeal r 5", api.OK},
		{"p", "", api.ErrUnknown}, {"h", "", api.ErrUnknown}, {"x", "", api.ErrUnknown}, {"", "", api.ErrUnknown},
	} {
		story, e := office.Story(l, x.test)
		wantError(t, "Story of "+x.test, story, e, x.e)
		want(t, "Story of "+x.test, told(story), x.story)
		if x.e == api.OK {
			want(t, "Story of "+x.test, story, events(strings.Split(x.story, "; ")...))
			want(t, "the second reading of the story of "+x.test, story, slowStory(l, x.test))
		}
	}
	story, e := office.Story(journal(), "t")
	wantOK(t, "Story of J", story, e, journal())
	story, e = office.Story(then(journal()[:3], "undo"), "t")
	wantError(t, "Story of a test that is undone", story, e, api.ErrUnknown)
}

func TestRegistersByTheDefinition(t *testing.T) {
	r := dice(1)
	reached, refusals := map[string]int{}, map[string]int{}
	for range 600 {
		l := someJournal(r, between(r, 0, 70))
		what := " after " + told(l)
		counting := slowCounting(l)
		wanted := slowRegister(counting)
		register, number, e := office.Replay(l)
		wantOK(t, "Replay"+what, replayed{register, number}, e, replayed{wanted, 0})
		for _, e := range l {
			reached[e.Kind]++
		}
		for range 20 {
			more := someEvent(r, l)
			wanted := slowForm(more)
			if wanted == api.OK {
				wanted = slowRefusal(l, more)
			}
			want(t, "Accepts of "+line(more)+what, office.Accepts(l, more), wanted)
			refusals[fmt.Sprint(more.Kind, " ", wanted)]++
		}
		for range 2 {
			more := someEvent(r, l)
			longer := append(slices.Clone(l), more, event(len(l)+2, "undo"), event(5, "undo"))
			number, errno := slowReplay(longer)
			_, n, e := office.Replay(longer)
			want(t, "Replay with "+line(more)+what, []any{n, e}, []any{number, errno})
		}
		day := between(r, 0, slowDay(counting)+2)
		upTo := len(counting)
		for upTo > 0 && counting[upTo-1].Values[0] > day {
			upTo--
		}
		asOf, e := office.AsOf(l, day)
		wantOK(t, fmt.Sprintf("AsOf %d", day)+what, asOf, e, slowRegister(counting[:upTo]))
		for _, p := range wanted.Parts {
			cert, e := office.Valid(l, p.Name, day)
			want(t, fmt.Sprintf("Valid of %s on %d", p.Name, day)+what, cert, slowValid(counting, p.Name, day))
			want(t, "its error", e == api.OK, cert != "")
			keepers, e := office.Custody(l, p.Name)
			wantOK(t, "Custody of "+p.Name+what, keepers, e, slowKeepers(counting, p.Name))
		}
		var questioned []string
		for _, x := range wanted.Tests {
			if slowQuestioned(wanted, x) {
				questioned = append(questioned, x.Name)
			}
			story, e := office.Story(l, x.Name)
			wantOK(t, "Story of "+x.Name+what, story, e, slowStory(l, x.Name))
		}
		names, e := office.Questioned(l)
		wantOK(t, "Questioned"+what, names, e, questioned)
	}
	for _, x := range shapes {
		want(t, fmt.Sprintf("whether %s is often reached (%d times)", x.kind, reached[x.kind]), reached[x.kind] > 100, true)
	}
	for _, x := range []string{"undo 21", "hand 31", "cert 14", "withdraw 23", "test 21", "programme 14", "score 30", "score 24", "appeal 23", "uphold 32", "change 32", "part 9", "score 10", "hand 22", "score 9"} {
		want(t, fmt.Sprintf("whether the refusal of %s is often reached (%d times)", x, refusals[x]), refusals[x] > 5, true)
	}
}
