package restraint

import (
	"crumple/api"
	"crumple/check"
)

// check returns the first error of a case, or OK.
func (c Case) check() api.Errno {
	return check.First(
		check.Name(c.Name),
		checkSpeed(c.Speed),
		check.Each(c.Answers[:], func(x api.Interval) api.Errno { return check.Interval(x, -MaxAnswer, MaxAnswer) }),
	)
}

// CheckCases returns the first error of cases, or OK.
func CheckCases(l []Case) api.Errno {
	names := check.Names{}
	return check.First(check.Count(len(l), MaxCases), check.Each(l, func(c Case) api.Errno {
		return check.First(c.check(), names.Take(c.Name))
	}))
}

// nearest returns, for each answer, the integer of its interval that is nearest to it.
func (c Case) nearest(answers [3]int) [3]int {
	for i, x := range c.Answers {
		answers[i] = min(max(answers[i], x.Low), x.High)
	}
	return answers
}

// explains reports whether a set explains a case.
func (m Model) explains(p Set, c Case) bool {
	answers := m.answers(p, c.Speed)
	return c.nearest(answers) == answers
}

// misfit returns the misfit of a set for a case.
func (m Model) misfit(p Set, c Case) int {
	answers := m.answers(p, c.Speed)
	misfit := 0
	for i, x := range c.nearest(answers) {
		misfit += max(x-answers[i], answers[i]-x)
	}
	return misfit
}

// checkFit returns the first error of a model, a set and a case, or OK.
func checkFit(m Model, p Set, c Case) api.Errno {
	return check.First(CheckModel(m), CheckSet(p), c.check())
}

// Explains reports whether a set explains a case.
func Explains(m Model, p Set, c Case) (bool, api.Errno) {
	if e := checkFit(m, p, c); e != api.OK {
		return false, e
	}
	return m.explains(p, c), api.OK
}

// Misfit returns the misfit of a set for a case.
func Misfit(m Model, p Set, c Case) (int, api.Errno) {
	if e := checkFit(m, p, c); e != api.OK {
		return 0, e
	}
	return m.misfit(p, c), api.OK
}
