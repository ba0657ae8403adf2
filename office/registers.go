package office

import (
	"slices"

	"crumple/api"
	"crumple/check"
)

// named is an element of a list of a register.
type named interface {
	name() string
}

func (p Part) name() string {
	return p.Name
}

func (c Cert) name() string {
	return c.Name
}

func (t Test) name() string {
	return t.Name
}

func (c Channel) name() string {
	return c.Name
}

func (p Programme) name() string {
	return p.Name
}

func (s Score) name() string {
	return s.Name
}

// index returns the index of the element with a name, or -1.
func index[A named](l []A, name string) int {
	return slices.IndexFunc(l, func(x A) bool { return x.name() == name })
}

// has reports whether there is an element with a name.
func has[A named](l []A, name string) bool {
	return index(l, name) >= 0
}

// get returns the element with a name; its zero value if there is none.
func get[A named](l []A, name string) A {
	i := index(l, name)
	if i < 0 {
		var none A
		return none
	}
	return l[i]
}

// checkKnown returns ErrUnknown if there is no element with a name, or OK.
func checkKnown[A named](l []A, name string) api.Errno {
	return check.When(!has(l, name), api.ErrUnknown)
}

// added returns a copy of a list with a further element: earlier registers keep theirs.
func added[A any](l []A, x A) []A {
	return append(slices.Clone(l), x)
}

// changed returns a copy of a list in which the element with a name is changed; there is one.
func changed[A named](l []A, name string, change func(*A)) []A {
	l = slices.Clone(l)
	change(&l[index(l, name)])
	return l
}

// resting is a test with the certificate on which it rests.
type resting struct {
	Test
	cert Cert
}

// isQuestioned reports whether the certificate is withdrawn.
func (r resting) isQuestioned() bool {
	return r.cert.Withdrawn
}

// rest returns a test with the certificate on which it rests.
func (r Register) rest(t Test) resting {
	return resting{Test: t, cert: get(r.Certs, t.Cert)}
}

// testOf returns the test of a channel.
func (r Register) testOf(channel string) Test {
	return get(r.Tests, get(r.Channels, channel).Test)
}

// valid returns the name of the valid certificate of a part on a day; it is empty if there is none.
func (r Register) valid(part string, day int) string {
	valid := ""
search:
	for _, c := range slices.Backward(r.Certs) {
		switch {
		case c.Part != part, c.Withdrawn, day < c.From, c.Until < day:
		default:
			valid = c.Name
			break search
		}
	}
	return valid
}

// The story of a test is about its part, its own elements, and all programmes.

func (r Register) partIsAbout(name string, t Test) bool {
	return name == t.Part
}

func (r Register) certIsAbout(name string, t Test) bool {
	return get(r.Certs, name).Part == t.Part
}

func (r Register) testIsAbout(name string, t Test) bool {
	return name == t.Name
}

func (r Register) channelIsAbout(name string, t Test) bool {
	return get(r.Channels, name).Test == t.Name
}

func (r Register) programmeIsAbout(string, Test) bool {
	return true
}

func (r Register) scoreIsAbout(name string, t Test) bool {
	return r.channelIsAbout(get(r.Scores, name).Channel, t)
}
