package office

import (
	"iter"
	"slices"

	"crumple/api"
	"crumple/check"
	"crumple/lists"
)

// entry is an event that counts, with the register after it.
type entry struct {
	api.Event
	after Register
}

// journal is what follows from events: how many there are, and those that count.
type journal struct {
	book
	number  int
	entries []entry
}

// register returns the register after the first events that count.
func (j journal) register(count int) Register {
	if count == 0 {
		return Register{}
	}
	return j.entries[count-1].after
}

// last returns the register after all events.
func (j journal) last() Register {
	return j.register(len(j.entries))
}

// checkUndo returns the error with which an undo is not accepted, or OK.
func (j journal) checkUndo() api.Errno {
	if len(j.entries) == 0 {
		return api.ErrEmpty
	}
	last := j.entries[len(j.entries)-1]
	return check.When(j.book[last.Kind].isFinal, api.ErrRule)
}

// accepts returns the error with which an event that has none itself is not accepted, or OK.
func (j journal) accepts(e api.Event) api.Errno {
	switch {
	case e.Number != j.number+1:
		return api.ErrOrder
	case e.Kind == undoKind:
		return j.checkUndo()
	}
	return j.book[e.Kind].accepts(j.last(), e)
}

// add carries out an event that is accepted.
func (j *journal) add(e api.Event) {
	j.number++
	if e.Kind == undoKind {
		j.entries = j.entries[:len(j.entries)-1]
		return
	}
	r := j.last()
	r.Day = e.Values[0]
	j.book[e.Kind].change(&r, e)
	j.entries = append(j.entries, entry{Event: e, after: r})
}

// replayed returns the journal of events; with an error the number of the first event that has one.
func replayed(l []api.Event) (journal, int, api.Errno) {
	if len(l) > api.MaxEvents {
		return journal{}, 0, api.ErrMany
	}
	j := journal{book: kinds()}
	for i, e := range l {
		errno := j.check(e)
		if errno == api.OK {
			errno = j.accepts(e)
		}
		if errno != api.OK {
			return journal{}, i + 1, errno
		}
		j.add(e)
	}
	return j, 0, api.OK
}

// Replay returns the register after events, or the number of the first one with an error.
func Replay(l []api.Event) (Register, int, api.Errno) {
	j, number, e := replayed(l)
	return j.last(), number, e
}

// registered returns what Replay does, but for the number.
func registered(l []api.Event) (Register, api.Errno) {
	r, _, e := Replay(l)
	return r, e
}

// Accepts returns OK for an event that is accepted after events.
func Accepts(l []api.Event, e api.Event) api.Errno {
	j, _, errno := replayed(l)
	errno = check.First(errno, CheckEvent(e), check.When(len(l) >= api.MaxEvents, api.ErrMany))
	if errno != api.OK {
		return errno
	}
	return j.accepts(e)
}

// AsOf returns the register as of a day.
func AsOf(l []api.Event, day int) (Register, api.Errno) {
	j, _, e := replayed(l)
	if e := check.First(e, checkDay(day)); e != api.OK {
		return Register{}, e
	}
	// Days do not descend: the events up to a day are the first ones.
	before := lists.Kept(j.entries, func(x entry) bool { return x.after.Day <= day })
	return j.register(len(before)), api.OK
}

// checkDay returns ErrRange if a day is not in its range, or OK.
func checkDay(day int) api.Errno {
	return check.Within(day, 0, api.MaxNumber)
}

// Valid returns the certificate of a part that is valid on a day.
func Valid(l []api.Event, part string, day int) (string, api.Errno) {
	r, e := registered(l)
	if e := check.First(e, checkKnown(r.Parts, part), checkDay(day)); e != api.OK {
		return "", e
	}
	cert := r.valid(part, day)
	return cert, check.When(cert == "", api.ErrNone)
}

// Questioned returns the tests that rest on withdrawn certificates.
func Questioned(l []api.Event) ([]string, api.Errno) {
	r, e := registered(l)
	questioned := lists.Kept(lists.Mapped(r.Tests, r.rest), resting.isQuestioned)
	return lists.Mapped(questioned, resting.name), e
}

// counting visits the events that count and for which a condition holds.
func (j journal) counting(holds func(api.Event) bool) iter.Seq[api.Event] {
	return func(visit func(api.Event) bool) {
		for _, x := range j.entries {
			if holds(x.Event) && !visit(x.Event) {
				return
			}
		}
	}
}

// Custody returns who has had a part, and from which day on.
func Custody(l []api.Event, part string) ([]Keeper, api.Errno) {
	j, _, errno := replayed(l)
	if errno := check.First(errno, checkKnown(j.last().Parts, part)); errno != api.OK {
		return nil, errno
	}
	var keepers []Keeper
	hands := func(e api.Event) bool { return (e.Kind == partKind || e.Kind == handKind) && e.Names[0] == part }
	for e := range j.counting(hands) {
		keepers = append(keepers, Keeper{Name: e.Names[1], Day: e.Values[0]})
	}
	return keepers, api.OK
}

// cloned returns an event that shares no memory with this one.
func cloned(e api.Event) api.Event {
	e.Names = slices.Clone(e.Names)
	e.Values = slices.Clone(e.Values)
	return e
}

// Story returns the events that concern a test.
func Story(l []api.Event, test string) ([]api.Event, api.Errno) {
	j, _, errno := replayed(l)
	r := j.last()
	if errno := check.First(errno, checkKnown(r.Tests, test)); errno != api.OK {
		return nil, errno
	}
	t := get(r.Tests, test)
	concerns := func(e api.Event) bool { return j.book[e.Kind].names[0].about(r, e.Names[0], t) }
	var story []api.Event
	for e := range j.counting(concerns) {
		e = cloned(e)
		e.Number = len(story) + 1
		story = append(story, e)
	}
	return story, api.OK
}
