package office_test

import (
	"math/rand/v2"
	"slices"
	"strings"
	"sync"
	"testing"

	"crumple/api"
	"crumple/office"
)

// Rules that hold everywhere: arguments stay as they are, results share no memory, and no argument makes a function panic.

// spoil changes all that a register refers to.
func spoil(r office.Register) {
	for _, c := range r.Channels {
		for i := range c.Values {
			c.Values[i] = -1
		}
		_ = append(c.Values, -1)
	}
	for _, p := range r.Programmes {
		clear(p.Scales)
		_ = append(p.Scales, office.Scale{Best: -1})
	}
	clear(r.Parts)
	clear(r.Certs)
	clear(r.Tests)
	clear(r.Channels)
	clear(r.Programmes)
	clear(r.Scores)
}

// spoilEvents changes all that events refer to.
func spoilEvents(l []api.Event) {
	for _, e := range l {
		clear(e.Names)
		clear(e.Values)
		_ = append(e.Names, "x")
		_ = append(e.Values, -1)
	}
	clear(l)
}

func TestArgumentsStayAsTheyAre(t *testing.T) {
	lines := []string{"correct h 3 300", "correct h 3 301", "revise g 3 1 2", "channel k t 3 7", "hand p bob 4", "undo", "appeal s 4"}
	l := then(journal(), lines...)
	wanted := slowRegister(slowCounting(l))
	story := slowStory(l, "t")
	for range 2 {
		r, _, e := office.Replay(l)
		wantOK(t, "Replay", r, e, wanted)
		spoil(r)
		r, e = office.AsOf(l, 9)
		wantOK(t, "AsOf", r, e, wanted)
		spoil(r)
		got, e := office.Story(l, "t")
		wantOK(t, "Story", got, e, story)
		spoilEvents(got)
		questioned, e := office.Questioned(then(l, "withdraw c 4"))
		wantOK(t, "Questioned", questioned, e, []string{"t"})
		clear(questioned)
		keepers, e := office.Custody(l, "p")
		wantOK(t, "Custody", keepers, e, []office.Keeper{{Name: "ann", Day: 1}})
		clear(keepers)
		office.CheckEvent(l[0])
		office.Accepts(l, event(len(l)+1, "change s 4"))
		office.Append(slowLog(l), event(len(l)+1, "undo"))
		recovered, _, e := office.Recover(slowLog(l))
		wantOK(t, "Recover", recovered, e, l)
		spoilEvents(recovered)
		want(t, "the events", l, then(journal(), lines...))
	}
}

func TestVersionsOfOneRegisterShareNothing(t *testing.T) {
	l := then(journal(), "channel k t 3 450", "correct h 3 1", "correct k 3 1", "programme f 3 200 700", "revise g 3 1 2", "revise f 3 1 2")
	r, _, e := office.Replay(l)
	want(t, "Replay", e, api.OK)
	other := append(r.Channels[0].Values, 7)
	other[0] = 7
	r.Channels[0].Values[1] = 8
	r.Programmes[0].Scales[0] = office.Scale{}
	want(t, "the other channel", r.Channels[1].Values, []int{450, 1})
	want(t, "the other programme", r.Programmes[1].Scales, []office.Scale{{Best: 200, Worst: 700}, {Best: 1, Worst: 2}})
}

func TestASessionKeepsItsEvents(t *testing.T) {
	s := office.New()
	for _, e := range journal() {
		wantLine(t, s, line(e), "done "+string(rune('0'+e.Number)), api.OK)
	}
	for range 2 {
		got := s.Events()
		want(t, "Events", got, journal())
		spoilEvents(got)
		_ = append(got, event(7, "undo"))
	}
	wantSession(t, "after its results were changed", s, journal())
	// What a line shares its memory with may change afterwards.
	text := []byte("part q ann 3")
	wantLine(t, s, string(text), "done 7", api.OK)
	clear(text)
	wantSession(t, "after a line", s, then(journal(), "part q ann 3"))
	// A session that was copied goes on alone.
	other := *s
	wantLine(t, s, "part r ann 3", "done 8", api.OK)
	wantLine(t, &other, "undo", "done 8", api.OK)
	wantLine(t, s, "undo", "done 9", api.OK)
	wantSession(t, "that was copied", s, then(journal(), "part q ann 3", "part r ann 3", "undo"))
	wantSession(t, "that is a copy", &other, then(journal(), "part q ann 3", "undo"))
	var zero office.Session
	wantLine(t, &zero, "part p ann 1", "done 1", api.OK)
	wantSession(t, "that was never made", &zero, journal()[:1])
}

func TestCallsAtTheSameTime(t *testing.T) {
	l := full()
	wanted := slowRegister(l)
	var all sync.WaitGroup
	for range 8 {
		all.Go(func() {
			r, _, e := office.Replay(l)
			wantOK(t, "Replay", r, e, wanted)
			spoil(r)
			office.Story(l, "t0")
			office.Mean(l, "g0")
		})
	}
	all.Wait()
}

// anyEvent returns an event that is hardly ever one.
func anyEvent(r *rand.Rand, number int) api.Event {
	names := append([]string{"", "p", "c", "t", "h", "g", "s", "ann"}, badNames...)
	numbers := append([]int{0, 1, 2, 3, -1, api.MaxNumber}, far...)
	e := api.Event{Number: number, Kind: one(r, shapes).kind}
	if r.IntN(4) == 0 {
		e = api.Event{Number: one(r, numbers), Kind: one(r, badKinds), Text: one(r, names)}
	}
	for range r.IntN(4) {
		e.Names = append(e.Names, one(r, names))
		e.Values = append(e.Values, one(r, numbers))
	}
	if r.IntN(2) == 0 {
		e.Values = e.Values[:min(len(e.Values), 1)]
	}
	return e
}

func TestNothingPanics(t *testing.T) {
	r := dice(20)
	names := append([]string{"", "p", "c", "t", "h", "g", "s"}, badNames...)
	days := append([]int{0, 1, 3, 9, 10, -1}, far...)
	for range 3000 {
		l := slices.Clone(journal()[:r.IntN(7)])
		for range r.IntN(4) {
			l = append(l, anyEvent(r, len(l)+1))
		}
		e := anyEvent(r, len(l)+1)
		name, day := one(r, names), one(r, days)
		office.CheckEvent(e)
		office.Replay(l)
		office.Accepts(l, e)
		office.AsOf(l, day)
		office.Points(office.Scale{Best: one(r, days), Worst: one(r, days)}, day)
		office.Valid(l, name, day)
		office.Questioned(l)
		office.Again(l, name)
		office.Newer(l, name)
		office.Mean(l, name)
		office.Stars(l, name)
		c, _ := office.Provenance(l, name)
		office.CheckProvenance(l, name, c)
		office.Mark(l, name, someKey(r))
		office.Custody(l, name)
		office.Story(l, name)
		office.Append(slowLog(l), e)
		office.Recover(slowLog(l))
		office.Open(slowLog(l))
	}
}

func TestNoLinePanics(t *testing.T) {
	r := dice(21)
	bytes := []byte("pchtgsundo0149# \n\x00\xff")
	for range 300 {
		s := opened(t, journal())
		for range 20 {
			text := []byte(one(r, []string{"part q ann 3", "score s h g 3", "points s", "valid p 9", "keepers p", "undo", "correct h 3 300", ""}))
			for range between(r, 0, 2) {
				text = slices.Insert(text, r.IntN(len(text)+1), one(r, bytes))
			}
			before := s.Events()
			result, e := s.Do(string(text))
			wantError(t, "Do", result, e, e)
			want(t, "whether an event is added", len(s.Events()) > len(before), strings.HasPrefix(result, "done "))
			if e != api.OK {
				want(t, "the events after an error", s.Events(), before)
			}
		}
		again, e := office.Open(s.Log())
		want(t, "Open", e, api.OK)
		wantSession(t, "opened again", again, s.Events())
	}
}
