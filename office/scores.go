package office

import (
	"strconv"
	"strings"

	"crumple/api"
	"crumple/check"
	"crumple/lists"
	"crumple/quotient"
	"crumple/record"
)

// starMeans is the least means of the points for one star, for two, and so on.
var starMeans = [...]int{200, 400, 600, 750, 900}

// graded is a score with its channel and its programme.
type graded struct {
	Score
	channel   Channel
	programme Programme
}

// check returns the first error of a scale, or OK.
func (s Scale) check() api.Errno {
	return check.First(
		check.Within(s.Best, 0, api.MaxNumber),
		check.Within(s.Worst, 0, api.MaxNumber),
		check.When(s.Best >= s.Worst, api.ErrSpan),
	)
}

// points returns the points of a value on a scale.
func (s Scale) points(value int) int {
	// What is at most Best has no more than it would have at Best, what is at least Worst no less than 0.
	value = min(max(value, s.Best), s.Worst)
	return Full * (s.Worst - value) / (s.Worst - s.Best)
}

// Points returns the points of a value on a sliding scale.
func Points(scale Scale, value int) (int, api.Errno) {
	if e := check.First(scale.check(), check.Within(value, 0, api.MaxNumber)); e != api.OK {
		return 0, e
	}
	return scale.points(value), api.OK
}

// key returns the channel and the programme of a score: no two scores share both.
func (s Score) key() [2]string {
	return [2]string{s.Channel, s.Programme}
}

// grade returns a score with its channel and its programme.
func (r Register) grade(s Score) graded {
	return graded{Score: s, channel: get(r.Channels, s.Channel), programme: get(r.Programmes, s.Programme)}
}

// scale returns the scale of the version that the score names.
func (g graded) scale() Scale {
	return g.programme.Scales[g.Rule]
}

// value returns the value of the version that the score names.
func (g graded) value() int {
	return g.channel.Values[g.Version]
}

// again returns the points of the versions that the score names.
func (g graded) again() int {
	return g.scale().points(g.value())
}

// newest returns the score by the newest versions.
func (g graded) newest() Score {
	g.Version = len(g.channel.Values) - 1
	g.Rule = len(g.programme.Scales) - 1
	g.Points = g.again()
	return g.Score
}

// scored returns the register after events, and a score of it.
func scored(l []api.Event, score string) (Register, graded, api.Errno) {
	r, e := registered(l)
	if e := check.First(e, checkKnown(r.Scores, score)); e != api.OK {
		return Register{}, graded{}, e
	}
	return r, r.grade(get(r.Scores, score)), api.OK
}

// Again returns the points of a score from the versions that it names.
func Again(l []api.Event, score string) (int, api.Errno) {
	_, g, e := scored(l, score)
	if e != api.OK {
		return 0, e
	}
	return g.again(), api.OK
}

// Newer returns the points that a score would have by the newest versions.
func Newer(l []api.Event, score string) (int, api.Errno) {
	_, g, e := scored(l, score)
	if e != api.OK {
		return 0, e
	}
	return g.newest().Points, api.OK
}

// Mean returns the mean of the points of all scores of a programme.
func Mean(l []api.Event, programme string) (api.Ratio, api.Errno) {
	r, e := registered(l)
	if e := check.First(e, checkKnown(r.Programmes, programme)); e != api.OK {
		return api.Ratio{}, e
	}
	own := lists.Kept(r.Scores, func(s Score) bool { return s.Programme == programme })
	if len(own) == 0 {
		return api.Ratio{}, api.ErrNone
	}
	sum := 0
	for _, s := range own {
		sum += s.Points
	}
	return quotient.Ratio(sum, len(own)), api.OK
}

// Stars returns the stars of a programme.
func Stars(l []api.Event, programme string) (int, api.Errno) {
	mean, e := Mean(l, programme)
	if e != api.OK {
		return 0, e
	}
	stars := 0
	for _, least := range starMeans {
		if quotient.Compare(mean, api.Ratio{Num: least, Den: 1}) >= 0 {
			stars++
		}
	}
	return stars, api.OK
}

// chain returns the provenance of a score.
func (r Register) chain(g graded) Chain {
	t := r.testOf(g.Channel)
	return Chain{
		Points:    g.Points,
		Programme: g.Programme,
		Rule:      g.Rule,
		Scale:     g.scale(),
		Channel:   g.Channel,
		Version:   g.Version,
		Value:     g.value(),
		Test:      t.Name,
		Part:      t.Part,
		Cert:      t.Cert,
	}
}

// text returns the string of a provenance.
func (c Chain) text() string {
	number := strconv.Itoa
	return strings.Join([]string{
		number(c.Points),
		c.Programme, number(c.Rule), number(c.Scale.Best), number(c.Scale.Worst),
		c.Channel, number(c.Version), number(c.Value),
		c.Test, c.Part, c.Cert,
	}, " ")
}

// Provenance returns what a score rests on.
func Provenance(l []api.Event, score string) (Chain, api.Errno) {
	r, g, e := scored(l, score)
	if e != api.OK {
		return Chain{}, e
	}
	return r.chain(g), api.OK
}

// CheckProvenance returns OK for the provenance of a score.
func CheckProvenance(l []api.Event, score string, c Chain) api.Errno {
	own, e := Provenance(l, score)
	return check.First(e, check.When(c != own, api.ErrProof))
}

// Mark returns the seal of the provenance of a score.
func Mark(l []api.Event, score string, key api.Key) (api.Key, api.Errno) {
	c, e := Provenance(l, score)
	if e != api.OK {
		return api.Key{}, e
	}
	return record.Seal(key, []byte(c.text()))
}
