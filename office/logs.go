package office

import (
	"iter"
	"strconv"
	"strings"

	"crumple/api"
	"crumple/check"
	"crumple/lines"
	"crumple/lists"
)

// The numbers by which a checksum goes on, and its digits.
const (
	sumStart   = 13
	sumFactor  = 401
	sumModulus = 9999937
	sumDigits  = 7
)

// sumMark stands between a body and its checksum.
const sumMark = "#"

// checksum returns the checksum of a string.
func checksum(s string) string {
	x := sumStart
	for _, b := range []byte(s) {
		x = (sumFactor*x + int(b)) % sumModulus
	}
	digits := strconv.Itoa(x)
	return strings.Repeat("0", sumDigits-len(digits)) + digits
}

// body returns the body of an event.
func body(e api.Event) string {
	words := append([]string{strconv.Itoa(e.Number), e.Kind}, e.Names...)
	return strings.Join(append(words, lists.Mapped(e.Values, strconv.Itoa)...), " ")
}

// recorded returns the record of an event.
func recorded(e api.Event) string {
	b := body(e)
	return b + sumMark + checksum(b) + "\n"
}

// areDigits reports whether a string has digits alone.
func areDigits(s string) bool {
	for _, c := range s {
		if c < '0' || c > '9' {
			return false
		}
	}
	return true
}

// readBody takes the words of an event's body.
func (b book) readBody(w *lines.Words) api.Event {
	number := w.Natural()
	e := b.read(w)
	e.Number = number
	return e
}

// readRecord returns the event of the first record of a string, which has to have a Number, and how many bytes the record has.
func (b book) readRecord(s string, number int) (api.Event, int, api.Errno) {
	line, _, ended := strings.Cut(s, "\n")
	if !ended {
		return api.Event{}, 0, api.ErrTorn
	}
	at := len(line) - sumDigits - len(sumMark)
	if at < 0 || !strings.HasPrefix(line[at:], sumMark) || !areDigits(line[at+len(sumMark):]) {
		return api.Event{}, 0, api.ErrSyntax
	}
	if line[at+len(sumMark):] != checksum(line[:at]) {
		return api.Event{}, 0, api.ErrCheck
	}
	e, errno := lines.Read(line[:at], b.readBody)
	if errno != api.OK || b.check(e) != api.OK {
		return api.Event{}, 0, api.ErrSyntax
	}
	if e.Number != number {
		return api.Event{}, 0, api.ErrOrder
	}
	return e, len(line) + 1, api.OK
}

// records visits the events of the longest prefix that is a log, each with how many bytes its record has.
func (b book) records(s string) iter.Seq2[api.Event, int] {
	return func(visit func(api.Event, int) bool) {
		for before := range api.MaxEvents {
			e, size, errno := b.readRecord(s, before+1)
			if errno != api.OK || !visit(e, size) {
				return
			}
			s = s[size:]
		}
	}
}

// Recover returns the events of the longest prefix that is a log, and its length.
func Recover(log string) ([]api.Event, int, api.Errno) {
	if len(log) > api.MaxLog {
		return nil, 0, api.ErrLong
	}
	b, end := kinds(), 0
	var l []api.Event
	for e, size := range b.records(log) {
		l = append(l, e)
		end += size
	}
	if end == len(log) {
		return l, end, api.OK
	}
	_, _, errno := b.readRecord(log[end:], len(l)+1)
	return l, end, errno
}

// Append returns a log with a further event.
func Append(log string, e api.Event) (string, api.Errno) {
	l, _, errno := Recover(log)
	errno = check.First(errno, CheckEvent(e), check.When(e.Number != len(l)+1, api.ErrOrder))
	if errno != api.OK {
		return "", errno
	}
	log += recorded(e)
	if len(log) > api.MaxLog {
		return "", api.ErrLong
	}
	return log, api.OK
}
