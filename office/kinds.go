package office

import (
	"crumple/api"
	"crumple/check"
	"crumple/lines"
)

// The kinds of events.
const (
	partKind      = "part"
	handKind      = "hand"
	certKind      = "cert"
	withdrawKind  = "withdraw"
	testKind      = "test"
	channelKind   = "channel"
	correctKind   = "correct"
	programmeKind = "programme"
	reviseKind    = "revise"
	scoreKind     = "score"
	appealKind    = "appeal"
	upholdKind    = "uphold"
	changeKind    = "change"
	undoKind      = "undo"
)

// list is a list of a register, as events see it.
type list struct {
	has    func(Register, string) bool
	isFull func(Register) bool
	// about is whether the element with a name belongs to the story of a test.
	about func(Register, string, Test) bool
}

// kind is a kind of events: the lists of its Names, how many Values it has, when it is not accepted, and what it changes beside the day.
type kind struct {
	names  []list
	values int
	// isNew is whether its first Name is that of a new element.
	isNew bool
	// isFinal is whether it cannot be undone.
	isFinal bool
	rule    func(Register, api.Event) api.Errno
	change  func(*Register, api.Event)
}

// book is all kinds by their words.
type book map[string]kind

// listOf returns a list of a register with at most some elements.
func listOf[A named](most int, elements func(Register) []A, about func(Register, string, Test) bool) list {
	return list{
		has:    func(r Register, name string) bool { return has(elements(r), name) },
		isFull: func(r Register) bool { return len(elements(r)) >= most },
		about:  about,
	}
}

// kinds returns all kinds.
func kinds() book {
	part := listOf(MaxParts, func(r Register) []Part { return r.Parts }, Register.partIsAbout)
	cert := listOf(MaxCerts, func(r Register) []Cert { return r.Certs }, Register.certIsAbout)
	test := listOf(MaxTests, func(r Register) []Test { return r.Tests }, Register.testIsAbout)
	channel := listOf(MaxChannels, func(r Register) []Channel { return r.Channels }, Register.channelIsAbout)
	programme := listOf(MaxProgrammes, func(r Register) []Programme { return r.Programmes }, Register.programmeIsAbout)
	score := listOf(MaxScores, func(r Register) []Score { return r.Scores }, Register.scoreIsAbout)
	// Keepers are any names.
	keeper := list{has: func(Register, string) bool { return true }}
	return book{
		partKind:      {names: []list{part, keeper}, values: 1, isNew: true, change: (*Register).addPart},
		handKind:      {names: []list{part, keeper}, values: 1, rule: Register.checkHand, change: (*Register).hand},
		certKind:      {names: []list{cert, part}, values: 2, isNew: true, rule: Register.checkCert, change: (*Register).addCert},
		withdrawKind:  {names: []list{cert}, values: 1, isFinal: true, rule: Register.checkWithdraw, change: (*Register).withdraw},
		testKind:      {names: []list{test, part}, values: 1, isNew: true, rule: Register.checkTest, change: (*Register).addTest},
		channelKind:   {names: []list{channel, test}, values: 2, isNew: true, change: (*Register).addChannel},
		correctKind:   {names: []list{channel}, values: 2, rule: Register.checkCorrect, change: (*Register).correct},
		programmeKind: {names: []list{programme}, values: 3, isNew: true, rule: Register.checkScale, change: (*Register).addProgramme},
		reviseKind:    {names: []list{programme}, values: 3, rule: Register.checkRevise, change: (*Register).revise},
		scoreKind:     {names: []list{score, channel, programme}, values: 1, isNew: true, rule: Register.checkScore, change: (*Register).addScore},
		appealKind:    {names: []list{score}, values: 1, rule: Register.checkAppeal, change: (*Register).appeal},
		upholdKind:    {names: []list{score}, values: 1, isFinal: true, rule: Register.checkUphold, change: (*Register).uphold},
		changeKind:    {names: []list{score}, values: 1, isFinal: true, rule: Register.checkChange, change: (*Register).change},
		undoKind:      {},
	}
}

// shape returns how many Names and Values events of a kind have.
func (k kind) shape() [2]int {
	return [2]int{len(k.names), k.values}
}

// check returns the first error of an event alone, or OK.
func (b book) check(e api.Event) api.Errno {
	k, isKind := b[e.Kind]
	return check.First(
		check.Within(e.Number, 1, api.MaxEvents),
		check.When(!isKind, api.ErrKind),
		check.When([2]int{len(e.Names), len(e.Values)} != k.shape(), api.ErrShape),
		check.Each(e.Names, check.Name),
		check.Each(e.Values, func(x int) api.Errno { return check.Within(x, 0, api.MaxNumber) }),
		check.When(e.Text != "", api.ErrForm),
	)
}

// CheckEvent returns the first error of an event, or OK.
func CheckEvent(e api.Event) api.Errno {
	return kinds().check(e)
}

// accepts returns the error with which an event of a kind, but an undo, is not accepted after a register, or OK.
func (k kind) accepts(r Register, e api.Event) api.Errno {
	errno := check.First(check.When(e.Values[0] < r.Day, api.ErrState), k.checkNames(r, e.Names))
	if errno == api.OK && k.rule != nil {
		errno = k.rule(r, e)
	}
	return check.First(errno, check.When(k.isNew && k.names[0].isFull(r), api.ErrMany))
}

// checkNames returns ErrUnknown if a Name is not in its list, ErrTwice if that of a new element is, or OK.
func (k kind) checkNames(r Register, names []string) api.Errno {
	for i, l := range k.names {
		isNew := k.isNew && i == 0
		if !isNew && !l.has(r, names[i]) {
			return api.ErrUnknown
		}
	}
	return check.When(k.isNew && k.names[0].has(r, names[0]), api.ErrTwice)
}

// read takes the kind of an event, and as many Names and Values as it has.
func (b book) read(w *lines.Words) api.Event {
	return readShaped(w, func(word string) [2]int { return b[word].shape() })
}

// readShaped takes a word, and as many names and integers as its shape says.
func readShaped(w *lines.Words, shape func(string) [2]int) api.Event {
	word, number := w.Word, w.Natural
	e := api.Event{Kind: word()}
	count := shape(e.Kind)
	for range count[0] {
		e.Names = append(e.Names, word())
	}
	for range count[1] {
		e.Values = append(e.Values, number())
	}
	return e
}
