package office

import (
	"strconv"
	"strings"

	"crumple/api"
	"crumple/check"
	"crumple/lines"
	"crumple/lists"
)

// The first words of results.
const (
	doneWord = "done"
	noneWord = "none"
)

// question is a question of the console: how many names and integers it has, and the words of its answer after events.
type question struct {
	shape  [2]int
	answer func([]api.Event, api.Event) ([]string, api.Errno)
}

// questions returns all questions by their words; what is asked is read like an event.
func questions() map[string]question {
	return map[string]question{
		"valid":      {[2]int{1, 1}, answerValid},
		"questioned": {[2]int{0, 0}, answerQuestioned},
		"points":     {[2]int{1, 0}, answerPoints},
		"stars":      {[2]int{1, 0}, answerStars},
		"why":        {[2]int{1, 0}, answerWhy},
		"keepers":    {[2]int{1, 0}, answerKeepers},
	}
}

// decimal returns integers as words.
func decimal(l ...int) []string {
	return lists.Mapped(l, strconv.Itoa)
}

func answerValid(l []api.Event, asked api.Event) ([]string, api.Errno) {
	cert, e := Valid(l, asked.Names[0], asked.Values[0])
	return []string{cert}, e
}

func answerQuestioned(l []api.Event, _ api.Event) ([]string, api.Errno) {
	return Questioned(l)
}

func answerPoints(l []api.Event, asked api.Event) ([]string, api.Errno) {
	_, g, e := scored(l, asked.Names[0])
	if e != api.OK {
		return nil, e
	}
	return decimal(g.Points, g.newest().Points, g.State), api.OK
}

func answerStars(l []api.Event, asked api.Event) ([]string, api.Errno) {
	stars, e := Stars(l, asked.Names[0])
	return decimal(stars), e
}

func answerWhy(l []api.Event, asked api.Event) ([]string, api.Errno) {
	c, e := Provenance(l, asked.Names[0])
	return []string{c.text()}, e
}

func answerKeepers(l []api.Event, asked api.Event) ([]string, api.Errno) {
	keepers, e := Custody(l, asked.Names[0])
	var words []string
	for _, k := range keepers {
		words = append(words, k.Name, strconv.Itoa(k.Day))
	}
	return words, e
}

// New returns a session without events.
func New() *Session {
	return &Session{}
}

// Open returns a session with the events of a log.
func Open(log string) (*Session, api.Errno) {
	l, _, e := Recover(log)
	if e != api.OK && e != api.ErrTorn {
		return nil, e
	}
	if _, _, e := Replay(l); e != api.OK {
		return nil, e
	}
	return &Session{events: l}, api.OK
}

// Do carries out a line of the console.
func (s *Session) Do(line string) (string, api.Errno) {
	e := check.First(
		check.When(s == nil, api.ErrState),
		check.When(len(line) > api.MaxText, api.ErrLong),
		check.When(line == "", api.ErrSyntax),
	)
	if e != api.OK {
		return "", e
	}
	word, _, _ := strings.Cut(line, " ")
	if _, isKind := kinds()[word]; isKind {
		return s.enter(line)
	}
	if q, isQuestion := questions()[word]; isQuestion {
		return s.ask(line, q)
	}
	return "", api.ErrKind
}

// enter adds the event of a line.
func (s *Session) enter(line string) (string, api.Errno) {
	e, errno := lines.Read(line, kinds().read)
	if errno != api.OK {
		return "", errno
	}
	if len(s.events) >= api.MaxEvents {
		return "", api.ErrMany
	}
	e.Number = len(s.events) + 1
	if errno := Accepts(s.events, e); errno != api.OK {
		return "", errno
	}
	s.events = added(s.events, e)
	return doneWord + " " + strconv.Itoa(e.Number), api.OK
}

// ask answers the question of a line.
func (s *Session) ask(line string, q question) (string, api.Errno) {
	asked, e := lines.Read(line, func(w *lines.Words) api.Event {
		return readShaped(w, func(string) [2]int { return q.shape })
	})
	if e != api.OK {
		return "", e
	}
	words, e := q.answer(s.events, asked)
	switch {
	case e != api.OK:
		return "", e
	case len(words) == 0:
		return noneWord, api.OK
	}
	return strings.Join(words, " "), api.OK
}

// Events returns the events of a session.
func (s *Session) Events() []api.Event {
	if s == nil {
		return nil
	}
	return lists.Mapped(s.events, cloned)
}

// Log returns the log of a session.
func (s *Session) Log() string {
	return strings.Join(lists.Mapped(s.Events(), recorded), "")
}
