package dummy

import (
	"slices"
	"sort"

	"crumple/api"
	"crumple/check"
	"crumple/lists"
)

// numbered is a calibration with its index; without a name it is none.
type numbered struct {
	Calibration
	at int
}

// bench is a laboratory with the tree of its parts, and with the specimens of each test on its day.
type bench struct {
	Lab
	tree
	specimens [][]string
}

// status is a part's specimen on a day, its calibration, and what has come since.
type status struct {
	numbered
	rule     Rule
	specimen string
	good     bool
	age      int
	uses     int
}

// flaw is a word for what may be wrong, and when it applies.
type flaw struct {
	word    string
	applies func(status) bool
}

// flaws returns all that may be wrong; the first one that applies counts.
func flaws() []flaw {
	return []flaw{
		{"missing", func(s status) bool { return s.specimen == "" }},
		{"uncalibrated", func(s status) bool { return s.Name == "" }},
		{"failed", func(s status) bool { return !s.good }},
		{"old", func(s status) bool { return s.age > s.rule.Days }},
		{"worn", func(s status) bool { return s.uses >= s.rule.Uses }},
	}
}

// wrong returns the word for what is wrong; it is the empty string if nothing is.
func (s status) wrong() string {
	for _, f := range flaws() {
		if f.applies(s) {
			return f.word
		}
	}
	return ""
}

// opened returns the bench of a laboratory without an error.
func opened(x Lab) (bench, api.Errno) {
	if e := CheckLab(x); e != api.OK {
		return bench{}, e
	}
	specimens := lists.Mapped(x.Tests, func(t Test) []string {
		return lists.Mapped(t.Parts, func(part string) string { return x.specimen(part, t.Day) })
	})
	return bench{Lab: x, tree: grown(x.Parts), specimens: specimens}, api.OK
}

// withTest returns the bench of a laboratory, and the index of a test.
func withTest(x Lab, test string) (bench, int, api.Errno) {
	b, e := opened(x)
	if e != api.OK {
		return bench{}, 0, e
	}
	i := slices.IndexFunc(b.Tests, func(t Test) bool { return t.Name == test })
	return b, i, check.When(i < 0, api.ErrUnknown)
}

// withCalibration returns the bench of a laboratory, and a calibration.
func withCalibration(x Lab, calibration string) (bench, numbered, api.Errno) {
	b, e := opened(x)
	if e != api.OK {
		return bench{}, numbered{}, e
	}
	for _, c := range b.numbered() {
		if c.Name == calibration {
			return b, c, api.OK
		}
	}
	return bench{}, numbered{}, api.ErrUnknown
}

// numbered returns all calibrations with their indices.
func (b bench) numbered() []numbered {
	all := make([]numbered, 0, len(b.Calibrations))
	for i, c := range b.Calibrations {
		all = append(all, numbered{Calibration: c, at: i})
	}
	return all
}

// isGood reports whether each value of a calibration is in its interval.
func (b bench) isGood(c Calibration) bool {
	corridor := b.named[c.Part].Corridor
	for i, v := range c.Values {
		if check.Within(v, corridor[i].Low, corridor[i].High) != api.OK {
			return false
		}
	}
	return true
}

// latest returns the last calibration of a part and a specimen up to a day; there may be none.
func (b bench) latest(part, specimen string, day int) numbered {
	var last numbered
search:
	for _, c := range b.numbered() {
		switch {
		case c.Day > day:
			break search
		case c.Part == part && c.Specimen == specimen:
			last = c
		}
	}
	return last
}

// uses returns how many of the first n tests, from a day on, have used a specimen.
func (b bench) uses(specimen string, since, n int) int {
	count := 0
	for i := range n {
		if b.Tests[i].Day >= since && slices.Contains(b.specimens[i], specimen) {
			count++
		}
	}
	return count
}

// status returns how a part stands on a day, after the first n tests.
func (b bench) status(part string, day, n int) status {
	specimen := b.specimen(part, day)
	c := b.latest(part, specimen, day)
	return status{
		numbered: c,
		rule:     b.Rule,
		specimen: specimen,
		good:     b.isGood(c.Calibration),
		age:      day - c.Day,
		uses:     b.uses(specimen, c.Day, n),
	}
}

// statuses returns how the parts of a test stand, in their order.
func (b bench) statuses(test int) []status {
	t := b.Tests[test]
	return lists.Mapped(t.Parts, func(part string) status { return b.status(part, t.Day, test) })
}

// rests returns the names of the calibrations of a test, part by part.
func (b bench) rests(test int) []string {
	return lists.Mapped(b.statuses(test), func(s status) string { return s.Name })
}

// wrong returns what is wrong with a test, part by part.
func (b bench) wrong(test int) []string {
	return lists.Mapped(b.statuses(test), status.wrong)
}

// isCovered reports whether nothing is wrong with a test.
func (b bench) isCovered(test int) bool {
	return !slices.ContainsFunc(b.statuses(test), func(s status) bool { return s.wrong() != "" })
}

// isQuestionable reports whether a test is questionable by any calibration.
func (b bench) isQuestionable(test int) bool {
	return slices.ContainsFunc(b.numbered(), func(c numbered) bool { return b.questions(c, b.Tests[test]) })
}

// questions reports whether a test is questionable by a calibration.
func (b bench) questions(c numbered, t Test) bool {
	return t.Day < c.Day &&
		!b.isGood(c.Calibration) &&
		slices.Contains(t.Parts, c.Part) &&
		b.specimen(c.Part, t.Day) == c.Specimen &&
		!b.isVouched(c, t.Day)
}

// isVouched reports whether a good calibration after a day, but before this one, has vouched for its part and its specimen.
func (b bench) isVouched(c numbered, day int) bool {
	return slices.ContainsFunc(b.Calibrations[:c.at], func(other Calibration) bool {
		return other.Day > day && other.Part == c.Part && other.Specimen == c.Specimen && b.isGood(other)
	})
}

// testsThat returns the names of the tests that are chosen by their indices.
func (b bench) testsThat(chosen func(bench, int) bool) []string {
	var names []string
	for i, t := range b.Tests {
		if chosen(b, i) {
			names = append(names, t.Name)
		}
	}
	return names
}

// Good reports whether a calibration is good.
func Good(x Lab, calibration string) (bool, api.Errno) {
	b, c, e := withCalibration(x, calibration)
	return e == api.OK && b.isGood(c.Calibration), e
}

// Rests returns the calibrations on which a test rests.
func Rests(x Lab, test string) ([]string, api.Errno) {
	b, i, e := withTest(x, test)
	if e != api.OK {
		return nil, e
	}
	return b.rests(i), api.OK
}

// Wrong returns what is wrong with a test, part by part.
func Wrong(x Lab, test string) ([]string, api.Errno) {
	b, i, e := withTest(x, test)
	if e != api.OK {
		return nil, e
	}
	return b.wrong(i), api.OK
}

// Covered returns the tests that are covered.
func Covered(x Lab) ([]string, api.Errno) {
	b, e := opened(x)
	return b.testsThat(bench.isCovered), e
}

// Questionable returns the tests that are questionable.
func Questionable(x Lab) ([]string, api.Errno) {
	b, e := opened(x)
	return b.testsThat(bench.isQuestionable), e
}

// Withdrawn returns the tests that a withdrawn calibration reaches.
func Withdrawn(x Lab, calibration string) ([]string, api.Errno) {
	b, c, e := withCalibration(x, calibration)
	rests := func(b bench, test int) bool { return slices.Contains(b.rests(test), c.Name) }
	return b.testsThat(rests), e
}

// Without returns a laboratory without a calibration.
func Without(x Lab, calibration string) (Lab, api.Errno) {
	b, c, e := withCalibration(x, calibration)
	if e != api.OK {
		return Lab{}, e
	}
	left := b.Lab.clone()
	left.Calibrations = slices.Delete(left.Calibrations, c.at, c.at+1)
	return left, api.OK
}

// Due returns the parts that are due on a day.
func Due(x Lab, day int) ([]string, api.Errno) {
	b, e := opened(x)
	if e := check.First(e, checkDay(day)); e != api.OK {
		return nil, e
	}
	n := sort.Search(len(b.Tests), func(i int) bool { return b.Tests[i].Day > day })
	due := lists.Kept(b.Parts, func(p Part) bool { return b.status(p.Name, day, n).wrong() != "" })
	return lists.Mapped(due, Part.name), api.OK
}
