package dummy

import (
	"slices"

	"crumple/api"
	"crumple/check"
	"crumple/lists"
)

// forward returns a check of days, one after the other, that never go back.
func forward() func(day int) api.Errno {
	last := 0
	return func(day int) api.Errno {
		back := day < last
		last = day
		return check.When(back, api.ErrOrder)
	}
}

func checkDay(day int) api.Errno {
	return check.Within(day, 1, api.MaxDay)
}

// CheckLab returns the first error of a laboratory, or OK.
func CheckLab(x Lab) api.Errno {
	t := grown(x.Parts)
	return check.First(
		CheckParts(x.Parts),
		t.checkFittings(x.Fittings),
		t.checkCalibrations(x.Calibrations),
		t.checkTests(x.Tests),
		check.Within(x.Rule.Days, 0, MaxDays),
		check.Within(x.Rule.Uses, 1, MaxUses),
	)
}

// checkFittings returns the first error of fittings of a tree's parts, or OK.
func (t tree) checkFittings(l []Fitting) api.Errno {
	onward := forward()
	return check.First(
		check.When(len(l) > MaxFittings, api.ErrMany),
		check.Each(l, func(f Fitting) api.Errno {
			return check.First(checkDay(f.Day), t.checkPart(f.Part), check.Name(f.Specimen), onward(f.Day))
		}),
	)
}

// checkCalibrations returns the first error of calibrations of a tree's parts, or OK.
func (t tree) checkCalibrations(l []Calibration) api.Errno {
	onward, names := forward(), check.Names{}
	return check.First(
		check.When(len(l) > MaxCalibrations, api.ErrMany),
		check.Each(l, func(c Calibration) api.Errno {
			return check.First(
				check.Name(c.Name),
				names.Take(c.Name),
				t.checkPart(c.Part),
				check.Name(c.Specimen),
				checkDay(c.Day),
				check.When(len(c.Values) != len(t.named[c.Part].Corridor), api.ErrShape),
				check.Each(c.Values, func(v int) api.Errno { return check.Within(v, -MaxValue, MaxValue) }),
				onward(c.Day),
			)
		}),
	)
}

// checkTests returns the first error of tests with a tree's parts, or OK.
func (t tree) checkTests(l []Test) api.Errno {
	onward, names := forward(), check.Names{}
	return check.First(
		check.When(len(l) > MaxTests, api.ErrMany),
		check.Each(l, func(x Test) api.Errno {
			return check.First(check.Name(x.Name), names.Take(x.Name), checkDay(x.Day), t.checkUsed(x.Parts), onward(x.Day))
		}),
	)
}

// checkUsed returns the first error of the parts that a test uses, or OK.
func (t tree) checkUsed(l []string) api.Errno {
	used := check.Names{}
	return check.First(
		check.Count(len(l), MaxParts),
		check.Each(l, func(part string) api.Errno { return check.First(t.checkPart(part), used.Take(part)) }),
	)
}

// clone returns a laboratory that shares no memory with this one.
func (x Lab) clone() Lab {
	x.Parts = lists.Mapped(x.Parts, func(p Part) Part {
		p.Corridor = slices.Clone(p.Corridor)
		return p
	})
	x.Fittings = slices.Clone(x.Fittings)
	x.Calibrations = lists.Mapped(x.Calibrations, func(c Calibration) Calibration {
		c.Values = slices.Clone(c.Values)
		return c
	})
	x.Tests = lists.Mapped(x.Tests, func(t Test) Test {
		t.Parts = slices.Clone(t.Parts)
		return t
	})
	return x
}

// specimen returns the specimen of a part on a day; it is the empty string if there is none.
func (x Lab) specimen(part string, day int) string {
	last := ""
	for _, f := range x.Fittings {
		if f.Part == part && f.Day <= day {
			last = f.Specimen
		}
	}
	return last
}

// Specimen returns the specimen of a part on a day.
func Specimen(x Lab, part string, day int) (string, api.Errno) {
	e := check.First(CheckLab(x), grown(x.Parts).checkPart(part), checkDay(day))
	if e != api.OK {
		return "", e
	}
	specimen := x.specimen(part, day)
	return specimen, check.When(specimen == "", api.ErrNone)
}
