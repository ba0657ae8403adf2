package office_test

import (
	"fmt"
	"math/big"
	"regexp"
	"slices"
	"strconv"
	"strings"

	"crumple/api"
	"crumple/office"
)

// A second reading of the chapter's definitions, word by word and slowly: all follows from the list of the events that count, searched anew for each number.

// slowName is the form of a name.
var slowName = regexp.MustCompile(`^[A-Za-z][A-Za-z0-9_]{0,23}$`)

// slowCounting returns the events that count.
func slowCounting(l []api.Event) []api.Event {
	var counting []api.Event
	for _, e := range l {
		if e.Kind == "undo" {
			counting = counting[:len(counting)-1]
		} else {
			counting = append(counting, e)
		}
	}
	return counting
}

// slowDay returns the day of the last event that counts.
func slowDay(counting []api.Event) int {
	if len(counting) == 0 {
		return 0
	}
	return counting[len(counting)-1].Values[0]
}

// slowWith returns the events of some kinds that have a first Name; of all names, if it is "*".
func slowWith(l []api.Event, name string, kinds ...string) []api.Event {
	var with []api.Event
	for _, e := range l {
		if slices.Contains(kinds, e.Kind) && (name == "*" || e.Names[0] == name) {
			with = append(with, e)
		}
	}
	return with
}

// slowValid returns the valid certificate of a part on a day, after events that count.
func slowValid(l []api.Event, part string, day int) string {
	valid := ""
	for _, e := range slowWith(l, "*", "cert") {
		if e.Names[1] == part && e.Values[0] <= day && day <= e.Values[1] && len(slowWith(l, e.Names[0], "withdraw")) == 0 {
			valid = e.Names[0]
		}
	}
	return valid
}

// slowPoints returns the points of a value by a rational number.
func slowPoints(best, worst, value int) int {
	switch {
	case value <= best:
		return 1000
	case value >= worst:
		return 0
	}
	x := big.NewRat(int64(worst-value), int64(worst-best))
	x.Mul(x, big.NewRat(1000, 1))
	return int(new(big.Int).Quo(x.Num(), x.Denom()).Int64())
}

// slowScore returns a score after events that count.
func slowScore(l []api.Event, name string) office.Score {
	given := slowWith(l, name, "score")[0]
	s := office.Score{Name: name, Channel: given.Names[1], Programme: given.Names[2]}
	// The events up to the one by which the score was computed for the last time.
	computed := l
	for i, e := range l {
		switch {
		case e.Names[0] != name:
		case e.Kind == "score" || e.Kind == "change":
			computed = l[:i+1]
		}
	}
	for _, e := range slowWith(l, name, "appeal", "uphold", "change") {
		s.State = map[string]int{"appeal": 1, "uphold": 2, "change": 3}[e.Kind]
	}
	values := slowWith(computed, s.Channel, "channel", "correct")
	scales := slowWith(computed, s.Programme, "programme", "revise")
	s.Version, s.Rule = len(values)-1, len(scales)-1
	scale := scales[s.Rule].Values
	s.Points = slowPoints(scale[1], scale[2], values[s.Version].Values[1])
	return s
}

// slowRegister returns the register after events that count.
func slowRegister(l []api.Event) office.Register {
	r := office.Register{Day: slowDay(l)}
	for i, e := range l {
		switch name := e.Names[0]; e.Kind {
		case "part":
			hands := slowWith(l, name, "part", "hand")
			r.Parts = append(r.Parts, office.Part{Name: name, Keeper: hands[len(hands)-1].Names[1]})
		case "cert":
			r.Certs = append(r.Certs, office.Cert{Name: name, Part: e.Names[1], From: e.Values[0], Until: e.Values[1], Withdrawn: len(slowWith(l, name, "withdraw")) > 0})
		case "test":
			r.Tests = append(r.Tests, office.Test{Name: name, Part: e.Names[1], Cert: slowValid(l[:i], e.Names[1], e.Values[0]), Day: e.Values[0]})
		case "channel":
			c := office.Channel{Name: name, Test: e.Names[1]}
			for _, version := range slowWith(l, name, "channel", "correct") {
				c.Values = append(c.Values, version.Values[1])
			}
			r.Channels = append(r.Channels, c)
		case "programme":
			p := office.Programme{Name: name}
			for _, version := range slowWith(l, name, "programme", "revise") {
				p.Scales = append(p.Scales, office.Scale{Best: version.Values[1], Worst: version.Values[2]})
			}
			r.Programmes = append(r.Programmes, p)
		case "score":
			r.Scores = append(r.Scores, slowScore(l, name))
		}
	}
	return r
}

// slowTest returns the test of a channel.
func slowTest(r office.Register, channel string) office.Test {
	for _, c := range r.Channels {
		for _, t := range r.Tests {
			if c.Name == channel && c.Test == t.Name {
				return t
			}
		}
	}
	return office.Test{}
}

// slowQuestioned reports whether a test is questioned.
func slowQuestioned(r office.Register, test office.Test) bool {
	for _, c := range r.Certs {
		if c.Name == test.Cert && c.Withdrawn {
			return true
		}
	}
	return false
}

// slowForm returns the error of an event alone.
func slowForm(e api.Event) api.Errno {
	if e.Number < 1 || e.Number > 1000 {
		return api.ErrRange
	}
	for _, x := range shapes {
		if x.kind != e.Kind {
			continue
		}
		if len(e.Names) != x.names || len(e.Values) != x.values {
			return api.ErrShape
		}
		for _, name := range e.Names {
			if !slowName.MatchString(name) {
				return api.ErrName
			}
		}
		for _, n := range e.Values {
			if n < 0 || n > 999999999 {
				return api.ErrRange
			}
		}
		if e.Text != "" {
			return api.ErrForm
		}
		return api.OK
	}
	return api.ErrKind
}

// slowRefusal returns the error with which an event with its form is not accepted after events.
func slowRefusal(all []api.Event, e api.Event) api.Errno {
	l := slowCounting(all)
	if e.Number != len(all)+1 {
		return api.ErrOrder
	}
	if e.Kind == "undo" {
		if len(l) == 0 {
			return api.ErrEmpty
		}
		if slices.Contains([]string{"withdraw", "uphold", "change"}, l[len(l)-1].Kind) {
			return api.ErrRule
		}
		return api.OK
	}
	if e.Values[0] < slowDay(l) {
		return api.ErrState
	}
	// Of which kinds the events are that give the Names, one after the other; keepers need none.
	of := map[string][]string{
		"part": {"", ""}, "hand": {"part", ""}, "cert": {"", "part"}, "withdraw": {"cert"}, "test": {"", "part"}, "channel": {"", "test"}, "correct": {"channel"}, "programme": {""}, "revise": {"programme"}, "score": {"", "channel", "programme"}, "appeal": {"score"}, "uphold": {"score"}, "change": {"score"},
	}[e.Kind]
	for i, kind := range of {
		if kind != "" && !slices.Contains(created(l, kind), e.Names[i]) {
			return api.ErrUnknown
		}
	}
	if of[0] == "" && slices.Contains(created(l, e.Kind), e.Names[0]) {
		return api.ErrTwice
	}
	return slowRule(l, e)
}

// slowRule returns the error of an event's own kind.
func slowRule(l []api.Event, e api.Event) api.Errno {
	many := func(n int) api.Errno {
		if len(created(l, e.Kind)) >= n {
			return api.ErrMany
		}
		return api.OK
	}
	versions := func(kind string) int { return len(slowWith(l, e.Names[0], kind, e.Kind)) }
	state := func() int { return slowScore(l, e.Names[0]).State }
	switch e.Kind {
	case "part":
		return many(16)
	case "hand":
		if hands := slowKeepers(l, e.Names[0]); hands[len(hands)-1].Name == e.Names[1] {
			return api.ErrHeld
		}
	case "cert":
		if e.Values[1] < e.Values[0] {
			return api.ErrSpan
		}
		return many(32)
	case "withdraw":
		if versions("withdraw") > 0 {
			return api.ErrOver
		}
	case "test":
		if slowValid(l, e.Names[1], e.Values[0]) == "" {
			return api.ErrRule
		}
		return many(32)
	case "channel":
		return many(32)
	case "correct":
		if versions("channel") >= 8 {
			return api.ErrMany
		}
	case "programme":
		if e.Values[1] >= e.Values[2] {
			return api.ErrSpan
		}
		return many(8)
	case "revise":
		if e.Values[1] >= e.Values[2] {
			return api.ErrSpan
		}
		if versions("programme") >= 8 {
			return api.ErrMany
		}
	case "score":
		if r := slowRegister(l); slowQuestioned(r, slowTest(r, e.Names[1])) {
			return api.ErrRight
		}
		for _, s := range slowWith(l, "*", "score") {
			if s.Names[1] == e.Names[1] && s.Names[2] == e.Names[2] {
				return api.ErrConflict
			}
		}
		return many(64)
	case "appeal":
		if state() != 0 {
			return api.ErrOver
		}
	case "uphold", "change":
		if state() != 1 {
			return api.ErrOpen
		}
		if r := slowRegister(l); e.Kind == "change" && slowQuestioned(r, slowTest(r, slowScore(l, e.Names[0]).Channel)) {
			return api.ErrRight
		}
	}
	return api.OK
}

// slowReplay returns the number of the first event that is wrong, and its error.
func slowReplay(l []api.Event) (int, api.Errno) {
	if len(l) > 1000 {
		return 0, api.ErrMany
	}
	for i, e := range l {
		if errno := slowForm(e); errno != api.OK {
			return i + 1, errno
		}
		if errno := slowRefusal(l[:i], e); errno != api.OK {
			return i + 1, errno
		}
	}
	return 0, api.OK
}

// slowStory returns the story of a test after events.
func slowStory(all []api.Event, test string) []api.Event {
	l := slowCounting(all)
	part := slowWith(l, test, "test")[0].Names[1]
	var certs, channels, scores []string
	for _, e := range slowWith(l, "*", "cert", "channel") {
		switch {
		case e.Kind == "cert" && e.Names[1] == part:
			certs = append(certs, e.Names[0])
		case e.Kind == "channel" && e.Names[1] == test:
			channels = append(channels, e.Names[0])
		}
	}
	for _, e := range slowWith(l, "*", "score") {
		if slices.Contains(channels, e.Names[1]) {
			scores = append(scores, e.Names[0])
		}
	}
	var story []api.Event
	for _, e := range l {
		own := false
		switch e.Kind {
		case "part", "hand":
			own = e.Names[0] == part
		case "cert", "withdraw":
			own = slices.Contains(certs, e.Names[0])
		case "test":
			own = e.Names[0] == test
		case "channel", "correct":
			own = slices.Contains(channels, e.Names[0])
		case "programme", "revise":
			own = true
		default:
			own = slices.Contains(scores, e.Names[0])
		}
		if own {
			story = append(story, event(len(story)+1, line(e)))
		}
	}
	return story
}

// slowChain returns the provenance of a score.
func slowChain(r office.Register, s office.Score) office.Chain {
	t := slowTest(r, s.Channel)
	c := office.Chain{Points: s.Points, Programme: s.Programme, Rule: s.Rule, Channel: s.Channel, Version: s.Version, Test: t.Name, Part: t.Part, Cert: t.Cert}
	for _, p := range r.Programmes {
		if p.Name == s.Programme {
			c.Scale = p.Scales[s.Rule]
		}
	}
	for _, h := range r.Channels {
		if h.Name == s.Channel {
			c.Value = h.Values[s.Version]
		}
	}
	return c
}

// slowText returns the string of a provenance.
func slowText(c office.Chain) string {
	return fmt.Sprintf("%d %s %d %d %d %s %d %d %s %s %s", c.Points, c.Programme, c.Rule, c.Scale.Best, c.Scale.Worst, c.Channel, c.Version, c.Value, c.Test, c.Part, c.Cert)
}

// slowSeal returns the seal of a string by a key, as chapter 1 defines it.
func slowSeal(key api.Key, s string) api.Key {
	var seal api.Key
	for j := range 8 {
		x := int(key[j])
		for i := range len(s) {
			x = ((6*j+5)*x + int(s[i]) + 7*j + 3) % 256
		}
		seal[j] = byte(x)
	}
	return seal
}

// slowSum returns the checksum of a string.
func slowSum(s string) string {
	x := big.NewInt(13)
	for i := range len(s) {
		x.Mul(x, big.NewInt(401))
		x.Add(x, big.NewInt(int64(s[i])))
	}
	return fmt.Sprintf("%07d", x.Mod(x, big.NewInt(9999937)))
}

// slowRecord returns the record of an event.
func slowRecord(e api.Event) string {
	b := fmt.Sprint(e.Number, " ", line(e))
	return b + "#" + slowSum(b) + "\n"
}

// slowLog returns the log of events.
func slowLog(l []api.Event) string {
	var s strings.Builder
	for _, e := range l {
		s.WriteString(slowRecord(e))
	}
	return s.String()
}

// slowBody is the form of a body, ended is that of a line of a log.
var (
	slowBody  = regexp.MustCompile(`^(0|[1-9][0-9]{0,8})((?: [A-Za-z][A-Za-z0-9_]*)+)((?: (?:0|[1-9][0-9]{0,8}))*)$`)
	slowEnded = regexp.MustCompile(`(?s)^(.*)#([0-9]{7})$`)
)

// slowRead returns the event of a body, and whether it is one.
func slowRead(s string) (api.Event, bool) {
	m := slowBody.FindStringSubmatch(s)
	if m == nil {
		return api.Event{}, false
	}
	n, _ := strconv.Atoi(m[1])
	words := strings.Fields(m[2])
	e := api.Event{Number: n, Kind: words[0], Names: words[1:]}
	for _, word := range strings.Fields(m[3]) {
		n, _ := strconv.Atoi(word)
		e.Values = append(e.Values, n)
	}
	return e, slowForm(e) == api.OK
}

// slowRecover returns the events of the longest prefix that is a log, its length, and the error of the rest.
func slowRecover(log string) ([]api.Event, int, api.Errno) {
	var l []api.Event
	if len(log) > 1000000 {
		return nil, 0, api.ErrLong
	}
	for end := 0; ; {
		if end == len(log) {
			return l, end, api.OK
		}
		size := strings.Index(log[end:], "\n")
		if size < 0 {
			return l, end, api.ErrTorn
		}
		m := slowEnded.FindStringSubmatch(log[end : end+size])
		if m == nil {
			return l, end, api.ErrSyntax
		}
		if m[2] != slowSum(m[1]) {
			return l, end, api.ErrCheck
		}
		e, ok := slowRead(m[1])
		if !ok {
			return l, end, api.ErrSyntax
		}
		if e.Number != len(l)+1 {
			return l, end, api.ErrOrder
		}
		l = append(l, e)
		end += size + 1
	}
}

// The forms of the questions.
var (
	slowWord    = `[^ ]+`
	slowAsks    = regexp.MustCompile(`(?s)^(points|stars|why|keepers) (` + slowWord + `)$`)
	slowAsksDay = regexp.MustCompile(`(?s)^valid (` + slowWord + `) (0|[1-9][0-9]{0,8})$`)
	slowLines   = regexp.MustCompile(`(?s)^([a-z]+)((?: ` + slowWord + `)*)$`)
	slowInteger = regexp.MustCompile(`^(0|[1-9][0-9]{0,8})$`)
)

// slowLine returns the event of a line with a Number, and whether the line has its form.
func slowLine(number int, s string) (api.Event, bool) {
	m := slowLines.FindStringSubmatch(s)
	if m == nil {
		return api.Event{}, false
	}
	e, words := api.Event{Number: number, Kind: m[1]}, strings.Split(m[2], " ")[1:]
	for _, x := range shapes {
		if x.kind != e.Kind {
			continue
		}
		if len(words) != x.names+x.values {
			return api.Event{}, false
		}
		e.Names = words[:x.names]
		for _, word := range words[x.names:] {
			if !slowInteger.MatchString(word) {
				return api.Event{}, false
			}
			n, _ := strconv.Atoi(word)
			e.Values = append(e.Values, n)
		}
	}
	return e, true
}

// slowDo returns what a line of the console leads to after events; events that are added are only said to be.
func slowDo(l []api.Event, s string) (string, api.Errno) {
	word, _, _ := strings.Cut(s, " ")
	switch {
	case len(s) > 4096:
		return "", api.ErrLong
	case s == "":
		return "", api.ErrSyntax
	case slices.Contains([]string{"valid", "questioned", "points", "stars", "why", "keepers"}, word):
		return slowAnswer(l, s)
	}
	for _, x := range shapes {
		if x.kind != word {
			continue
		}
		e, ok := slowLine(len(l)+1, s)
		switch {
		case !ok:
			return "", api.ErrSyntax
		case len(l) == 1000:
			return "", api.ErrMany
		case slowForm(e) != api.OK:
			return "", slowForm(e)
		case slowRefusal(l, e) != api.OK:
			return "", slowRefusal(l, e)
		}
		return fmt.Sprint("done ", len(l)+1), api.OK
	}
	return "", api.ErrKind
}

// slowAnswer returns the answer to a question after events.
func slowAnswer(all []api.Event, s string) (string, api.Errno) {
	l := slowCounting(all)
	r := slowRegister(l)
	if s == "questioned" {
		var names []string
		for _, t := range r.Tests {
			if slowQuestioned(r, t) {
				names = append(names, t.Name)
			}
		}
		if len(names) == 0 {
			return "none", api.OK
		}
		return strings.Join(names, " "), api.OK
	}
	if m := slowAsksDay.FindStringSubmatch(s); m != nil {
		day, _ := strconv.Atoi(m[2])
		if !slices.Contains(created(l, "part"), m[1]) {
			return "", api.ErrUnknown
		}
		if cert := slowValid(l, m[1], day); cert != "" {
			return cert, api.OK
		}
		return "", api.ErrNone
	}
	m := slowAsks.FindStringSubmatch(s)
	if m == nil {
		return "", api.ErrSyntax
	}
	kind := map[string]string{"points": "score", "why": "score", "stars": "programme", "keepers": "part"}[m[1]]
	if !slices.Contains(created(l, kind), m[2]) {
		return "", api.ErrUnknown
	}
	switch m[1] {
	case "stars":
		_, stars, ok := slowStars(r, m[2])
		if !ok {
			return "", api.ErrNone
		}
		return fmt.Sprint(stars), api.OK
	case "keepers":
		var words []string
		for _, k := range slowKeepers(l, m[2]) {
			words = append(words, fmt.Sprint(k.Name, " ", k.Day))
		}
		return strings.Join(words, " "), api.OK
	case "why":
		return slowText(slowChain(r, slowScore(l, m[2]))), api.OK
	}
	score := slowScore(l, m[2])
	return fmt.Sprint(score.Points, " ", slowNewer(l, score), " ", score.State), api.OK
}

// slowNewer returns the points of a score by the newest versions.
func slowNewer(l []api.Event, s office.Score) int {
	// As if it were given only now.
	given := event(0, "score new "+s.Channel+" "+s.Programme+" 0")
	return slowScore(append(slices.Clone(l), given), "new").Points
}

// slowKeepers returns the keepers of a part.
func slowKeepers(l []api.Event, part string) []office.Keeper {
	var keepers []office.Keeper
	for _, e := range slowWith(l, part, "part", "hand") {
		keepers = append(keepers, office.Keeper{Name: e.Names[1], Day: e.Values[0]})
	}
	return keepers
}

// slowStars returns the mean and the stars of a programme, and whether it has scores.
func slowStars(r office.Register, programme string) (*big.Rat, int, bool) {
	sum, n := int64(0), int64(0)
	for _, s := range r.Scores {
		if s.Programme == programme {
			sum, n = sum+int64(s.Points), n+1
		}
	}
	if n == 0 {
		return nil, 0, false
	}
	mean := big.NewRat(sum, n)
	for _, x := range []struct {
		least int64
		stars int
	}{{900, 5}, {750, 4}, {600, 3}, {400, 2}, {200, 1}} {
		if mean.Cmp(big.NewRat(x.least, 1)) >= 0 {
			return mean, x.stars, true
		}
	}
	return mean, 0, true
}
