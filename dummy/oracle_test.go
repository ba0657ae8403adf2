package dummy_test

import (
	"slices"
	"testing"

	"crumple/api"
	"crumple/dummy"
)

// P3.2 (calibrations): the results for many laboratories, by the words of the definitions, one after the other.

// oracle answers by trying everything.
type oracle struct{ dummy.Lab }

func (o oracle) specimen(part string, day int) string {
	for i := len(o.Fittings) - 1; i >= 0; i-- {
		if o.Fittings[i].Part == part && o.Fittings[i].Day <= day {
			return o.Fittings[i].Specimen
		}
	}
	return ""
}

func (o oracle) good(c dummy.Calibration) bool {
	for _, p := range o.Parts {
		for i, x := range p.Corridor {
			if p.Name == c.Part && (c.Values[i] < x.Low || c.Values[i] > x.High) {
				return false
			}
		}
	}
	return true
}

// calibration returns the index of the last calibration of a part's specimen on a day, or -1.
func (o oracle) calibration(part string, day int) int {
	for i := len(o.Calibrations) - 1; i >= 0; i-- {
		c := o.Calibrations[i]
		if c.Part == part && c.Specimen == o.specimen(part, day) && c.Day <= day {
			return i
		}
	}
	return -1
}

// uses counts the tests of a list since a day.
func (o oracle) uses(l []dummy.Test, specimen string, since int) int {
	n := 0
	for _, t := range l {
		used := false
		for _, p := range t.Parts {
			used = used || o.specimen(p, t.Day) == specimen
		}
		if used && t.Day >= since {
			n++
		}
	}
	return n
}

// wrong returns what is wrong on a day, after the tests of a list.
func (o oracle) wrong(part string, day int, before []dummy.Test) string {
	if o.specimen(part, day) == "" {
		return "missing"
	}
	k := o.calibration(part, day)
	if k < 0 {
		return "uncalibrated"
	}
	c := o.Calibrations[k]
	switch {
	case !o.good(c):
		return "failed"
	case day-c.Day > o.Rule.Days:
		return "old"
	case o.uses(before, c.Specimen, c.Day) >= o.Rule.Uses:
		return "worn"
	}
	return ""
}

// questions reports whether the calibration k makes a test questionable.
func (o oracle) questions(k int, t dummy.Test) bool {
	c := o.Calibrations[k]
	if o.good(c) || !slices.Contains(t.Parts, c.Part) || o.specimen(c.Part, t.Day) != c.Specimen || t.Day >= c.Day {
		return false
	}
	for _, other := range o.Calibrations[:k] {
		if o.good(other) && other.Part == c.Part && other.Specimen == c.Specimen && other.Day > t.Day {
			return false
		}
	}
	return true
}

// rests returns the names of a test's calibrations.
func (o oracle) rests(t dummy.Test) []string {
	var l []string
	for _, p := range t.Parts {
		name := ""
		if k := o.calibration(p, t.Day); k >= 0 {
			name = o.Calibrations[k].Name
		}
		l = append(l, name)
	}
	return l
}

func (o oracle) due(day int) []string {
	var before []dummy.Test
	for _, t := range o.Tests {
		if t.Day <= day {
			before = append(before, t)
		}
	}
	var due []string
	for _, p := range o.Parts {
		if o.wrong(p.Name, day, before) != "" {
			due = append(due, p.Name)
		}
	}
	return due
}

func TestLabsByTheirDefinitions(t *testing.T) {
	r := dice(2)
	for range 1500 {
		x := someLab(r)
		o := oracle{x}
		want(t, "CheckLab", dummy.CheckLab(x), api.OK)
		for day := 1; day <= 17; day++ {
			l, e := dummy.Due(x, day)
			wantOK(t, "Due", l, e, o.due(day))
			for _, p := range x.Parts {
				s, e := dummy.Specimen(x, p.Name, day)
				wanted := o.specimen(p.Name, day)
				want(t, "Specimen", s, wanted)
				want(t, "whether it is there", e == api.ErrNone, wanted == "")
			}
		}
		var covered, questionable []string
		for i, u := range x.Tests {
			l, e := dummy.Rests(x, u.Name)
			wantOK(t, "Rests", l, e, o.rests(u))
			var flaws []string
			for _, p := range u.Parts {
				flaws = append(flaws, o.wrong(p, u.Day, x.Tests[:i]))
			}
			l, e = dummy.Wrong(x, u.Name)
			wantOK(t, "Wrong", l, e, flaws)
			if !slices.ContainsFunc(flaws, func(w string) bool { return w != "" }) {
				covered = append(covered, u.Name)
			}
			for k := range x.Calibrations {
				if o.questions(k, u) {
					questionable = append(questionable, u.Name)
					break
				}
			}
		}
		l, e := dummy.Covered(x)
		wantOK(t, "Covered", l, e, covered)
		l, e = dummy.Questionable(x)
		wantOK(t, "Questionable", l, e, questionable)
		for _, c := range x.Calibrations {
			good, e := dummy.Good(x, c.Name)
			wantOK(t, "Good", good, e, o.good(c))
			var reached []string
			for _, u := range x.Tests {
				if slices.Contains(o.rests(u), c.Name) {
					reached = append(reached, u.Name)
				}
			}
			l, e := dummy.Withdrawn(x, c.Name)
			wantOK(t, "Withdrawn", l, e, reached)
		}
	}
}
