package film

import (
	"cmp"
	"slices"

	"crumple/api"
	"crumple/check"
	"crumple/lists"
)

// maxShift is the greatest part of a shift.
const maxShift = 4 * MaxPlace

// fit is a frame with the indices of the marks that agree with it.
type fit struct {
	Frame
	marks []int
}

// CheckSurvey returns the first error of a survey, or OK.
func CheckSurvey(l []Mark) api.Errno {
	names := check.Names{}
	return check.First(
		check.Count(len(l), MaxPoints),
		check.Each(l, func(m Mark) api.Errno {
			return check.First(check.Name(m.Name), names.Take(m.Name), checkPlace(m.At))
		}),
	)
}

func (m Mark) name() string {
	return m.Name
}

// checkSurveys returns the first error of two surveys, or OK.
func checkSurveys(before, after []Mark) api.Errno {
	same := slices.Equal(lists.Mapped(before, Mark.name), lists.Mapped(after, Mark.name))
	return check.First(CheckSurvey(before), CheckSurvey(after), check.When(!same, api.ErrShape))
}

// checkTolerance returns the error of a tolerance, or OK.
func checkTolerance(tolerance int) api.Errno {
	return check.Within(tolerance, 0, MaxTolerance)
}

// check returns the first error of a frame, or OK.
func (f Frame) check() api.Errno {
	return check.First(CheckTurn(f.Turn), checkVector(f.Shift, maxShift))
}

// carried returns a place that is carried by a frame.
func (f Frame) carried(p api.Vector) api.Vector {
	return shifted(f.Turn.turned(p), f.Shift)
}

// Carried returns a place that is carried by a frame.
func Carried(f Frame, p api.Vector) (api.Vector, api.Errno) {
	if e := check.First(f.check(), checkPlace(p)); e != api.OK {
		return api.Vector{}, e
	}
	return f.carried(p), api.OK
}

// survey returns a survey that is carried by a frame.
func (f Frame) survey(l []Mark) []Mark {
	carried := slices.Clone(l)
	for i, m := range l {
		carried[i].At = f.carried(m.At)
	}
	return carried
}

// intrusions returns the intrusions of all marks by a frame.
func (f Frame) intrusions(before, after []Mark, tolerance int) []Box {
	var l []Box
	for i, m := range f.survey(before) {
		l = append(l, around(way(m.At, after[i].At), tolerance))
	}
	return l
}

// agreeing returns the indices of the marks that agree with a frame.
func (f Frame) agreeing(before, after []Mark, tolerance int) []int {
	var marks []int
	for i, intrusion := range f.intrusions(before, after, tolerance) {
		// A mark agrees if it may not have moved at all.
		if intrusion.has(api.Vector{}) {
			marks = append(marks, i)
		}
	}
	return marks
}

// fits returns the frames of two surveys, by their turns, those of a turn by the marks that they carry exactly.
func fits(before, after []Mark, tolerance int) []fit {
	var l []fit
	for _, turn := range Turns() {
		for i, m := range before {
			f := Frame{Turn: turn, Shift: way(turn.turned(m.At), after[i].At)}
			l = append(l, fit{Frame: f, marks: f.agreeing(before, after, tolerance)})
		}
	}
	return l
}

// compare compares two frames by the numbers of marks that agree with them.
func (f fit) compare(other fit) int {
	return cmp.Compare(len(f.marks), len(other.marks))
}

// Framed returns the common frame of two surveys, its certificate, and the second number.
func Framed(before, after []Mark, tolerance int) (Frame, []int, int, api.Errno) {
	if e := check.First(checkSurveys(before, after), checkTolerance(tolerance)); e != api.OK {
		return Frame{}, nil, 0, e
	}
	all := fits(before, after, tolerance)
	// Of several greatest ones this is the first.
	common := slices.MaxFunc(all, fit.compare)
	others := lists.Kept(all, func(f fit) bool { return f.Turn != common.Turn })
	second := slices.MaxFunc(others, fit.compare)
	return common.Frame, common.marks, len(second.marks), api.OK
}

// checkMarks returns the first error of indices of marks, or OK.
func checkMarks(marks []int, count int) api.Errno {
	before := -1
	return check.First(
		check.Each(marks, func(i int) api.Errno { return check.When(i < 0 || i >= count, api.ErrUnknown) }),
		check.Each(marks, func(i int) api.Errno {
			e := check.When(i <= before, api.ErrOrder)
			before = i
			return e
		}),
	)
}

// checkFramed returns the first error of two surveys, a frame and a tolerance, or OK.
func checkFramed(before, after []Mark, f Frame, tolerance int) api.Errno {
	return check.First(checkSurveys(before, after), f.check(), checkTolerance(tolerance))
}

// CheckFrame returns OK if marks agree with a frame.
func CheckFrame(before, after []Mark, f Frame, tolerance int, marks []int) api.Errno {
	e := check.First(checkFramed(before, after, f, tolerance), checkMarks(marks, len(before)))
	if e != api.OK {
		return e
	}
	agreeing := f.agreeing(before, after, tolerance)
	return check.Each(marks, func(i int) api.Errno {
		return check.When(!slices.Contains(agreeing, i), api.ErrProof)
	})
}

// Intrusions returns the intrusions of all marks.
func Intrusions(before, after []Mark, f Frame, tolerance int) ([]Box, api.Errno) {
	if e := checkFramed(before, after, f, tolerance); e != api.OK {
		return nil, e
	}
	return f.intrusions(before, after, tolerance), api.OK
}
