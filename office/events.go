package office

import (
	"slices"

	"crumple/api"
	"crumple/check"
)

// The rules of the kinds of events, beside those of all kinds, and what events change. A register shares lists with earlier ones: they are changed in copies.

func (r *Register) addPart(e api.Event) {
	r.Parts = added(r.Parts, Part{Name: e.Names[0], Keeper: e.Names[1]})
}

func (r Register) checkHand(e api.Event) api.Errno {
	return check.When(get(r.Parts, e.Names[0]).Keeper == e.Names[1], api.ErrHeld)
}

func (r *Register) hand(e api.Event) {
	r.Parts = changed(r.Parts, e.Names[0], func(p *Part) { p.Keeper = e.Names[1] })
}

func (r Register) checkCert(e api.Event) api.Errno {
	return check.When(e.Values[1] < e.Values[0], api.ErrSpan)
}

func (r *Register) addCert(e api.Event) {
	r.Certs = added(r.Certs, Cert{Name: e.Names[0], Part: e.Names[1], From: e.Values[0], Until: e.Values[1]})
}

func (r Register) checkWithdraw(e api.Event) api.Errno {
	return check.When(get(r.Certs, e.Names[0]).Withdrawn, api.ErrOver)
}

func (r *Register) withdraw(e api.Event) {
	r.Certs = changed(r.Certs, e.Names[0], func(c *Cert) { c.Withdrawn = true })
}

func (r Register) checkTest(e api.Event) api.Errno {
	return check.When(r.valid(e.Names[1], e.Values[0]) == "", api.ErrRule)
}

func (r *Register) addTest(e api.Event) {
	cert := r.valid(e.Names[1], e.Values[0])
	r.Tests = added(r.Tests, Test{Name: e.Names[0], Part: e.Names[1], Cert: cert, Day: e.Values[0]})
}

func (r *Register) addChannel(e api.Event) {
	r.Channels = added(r.Channels, Channel{Name: e.Names[0], Test: e.Names[1], Values: []int{e.Values[1]}})
}

func (r Register) checkCorrect(e api.Event) api.Errno {
	return check.When(len(get(r.Channels, e.Names[0]).Values) >= MaxVersions, api.ErrMany)
}

func (r *Register) correct(e api.Event) {
	r.Channels = changed(r.Channels, e.Names[0], func(c *Channel) { c.Values = added(c.Values, e.Values[1]) })
}

// scaleOf returns the scale of an event that has one.
func scaleOf(e api.Event) Scale {
	return Scale{Best: e.Values[1], Worst: e.Values[2]}
}

func (r Register) checkScale(e api.Event) api.Errno {
	return scaleOf(e).check()
}

func (r *Register) addProgramme(e api.Event) {
	r.Programmes = added(r.Programmes, Programme{Name: e.Names[0], Scales: []Scale{scaleOf(e)}})
}

func (r Register) checkRevise(e api.Event) api.Errno {
	scales := get(r.Programmes, e.Names[0]).Scales
	return check.First(scaleOf(e).check(), check.When(len(scales) >= MaxVersions, api.ErrMany))
}

func (r *Register) revise(e api.Event) {
	r.Programmes = changed(r.Programmes, e.Names[0], func(p *Programme) { p.Scales = added(p.Scales, scaleOf(e)) })
}

// checkRight returns ErrRight if the test of a channel is questioned, or OK.
func (r Register) checkRight(channel string) api.Errno {
	return check.When(r.rest(r.testOf(channel)).isQuestioned(), api.ErrRight)
}

func (r Register) checkScore(e api.Event) api.Errno {
	scored := [2]string{e.Names[1], e.Names[2]}
	isSame := func(s Score) bool { return s.key() == scored }
	return check.First(r.checkRight(e.Names[1]), check.When(slices.ContainsFunc(r.Scores, isSame), api.ErrConflict))
}

func (r *Register) addScore(e api.Event) {
	s := Score{Name: e.Names[0], Channel: e.Names[1], Programme: e.Names[2]}
	r.Scores = added(r.Scores, r.grade(s).newest())
}

// checkState returns an error if the State of a score is not as it has to be, or OK.
func (r Register) checkState(score string, state int, e api.Errno) api.Errno {
	return check.When(get(r.Scores, score).State != state, e)
}

func (r Register) checkAppeal(e api.Event) api.Errno {
	return r.checkState(e.Names[0], Given, api.ErrOver)
}

func (r *Register) appeal(e api.Event) {
	r.Scores = changed(r.Scores, e.Names[0], func(s *Score) { s.State = Appealed })
}

func (r Register) checkUphold(e api.Event) api.Errno {
	return r.checkState(e.Names[0], Appealed, api.ErrOpen)
}

func (r *Register) uphold(e api.Event) {
	r.Scores = changed(r.Scores, e.Names[0], func(s *Score) { s.State = Upheld })
}

func (r Register) checkChange(e api.Event) api.Errno {
	return check.First(r.checkUphold(e), r.checkRight(get(r.Scores, e.Names[0]).Channel))
}

func (r *Register) change(e api.Event) {
	r.Scores = changed(r.Scores, e.Names[0], func(s *Score) {
		*s = r.grade(*s).newest()
		s.State = Changed
	})
}
