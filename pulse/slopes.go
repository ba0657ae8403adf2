package pulse

import (
	"crumple/api"
	"crumple/check"
	"crumple/lists"
	"crumple/quotient"
)

// CheckSlope returns the first error of a slope, or OK.
func CheckSlope(s Slope) api.Errno {
	return check.First(
		check.Within(s.Along, 0, MaxSlope),
		check.Within(s.Across, 0, MaxSlope),
		check.Within(s.Whole, 1, MaxSlope),
		check.When(s.Along*s.Along+s.Across*s.Across != s.Whole*s.Whole, api.ErrForm),
	)
}

// part returns the part of a pulse that one side of a slope has.
func (s Slope) part(pulse []int, side int) []api.Interval {
	return lists.Mapped(pulse, func(acceleration int) api.Interval {
		product := acceleration * side
		return api.Interval{Low: quotient.Down(product, s.Whole), High: quotient.Up(product, s.Whole)}
	})
}

// Split returns both parts of a pulse by a slope.
func Split(s Slope, pulse []int) ([]api.Interval, []api.Interval, api.Errno) {
	if e := check.First(CheckSlope(s), checkPulse(pulse)); e != api.OK {
		return nil, nil, e
	}
	return s.part(pulse, s.Along), s.part(pulse, s.Across), api.OK
}
