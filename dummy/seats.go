package dummy

import (
	"slices"

	"crumple/api"
	"crumple/check"
	"crumple/lists"
)

// cube returns the box of all points whose parts are at most a number away from 0.
func cube(most int) Box {
	side := api.Interval{Low: -most, High: most}
	return Box{X: side, Y: side, Z: side}
}

// nearest returns the point of a box that is nearest to another one.
func (b Box) nearest(p api.Vector) api.Vector {
	return api.Vector{X: clamped(p.X, b.X), Y: clamped(p.Y, b.Y), Z: clamped(p.Z, b.Z)}
}

func clamped(n int, x api.Interval) int {
	return min(max(n, x.Low), x.High)
}

// has reports whether a point is in a box.
func (b Box) has(p api.Vector) bool {
	return b.nearest(p) == p
}

// checkVector returns ErrRange if a part of a vector is too far from 0, or OK.
func checkVector(v api.Vector, most int) api.Errno {
	return check.When(!cube(most).has(v), api.ErrRange)
}

// check returns the first error of a box, or OK.
func (b Box) check() api.Errno {
	return check.First(
		check.Interval(b.X, -MaxPlace, MaxPlace),
		check.Interval(b.Y, -MaxPlace, MaxPlace),
		check.Interval(b.Z, -MaxPlace, MaxPlace),
	)
}

// Out returns the indices of the points that are out of a seat.
func Out(seat []Box, points []api.Vector) ([]int, api.Errno) {
	e := check.First(
		check.Count(len(seat), MaxPoints),
		check.Each(seat, Box.check),
		check.When(len(points) != len(seat), api.ErrShape),
		check.Each(points, func(p api.Vector) api.Errno { return checkVector(p, MaxPlace) }),
	)
	if e != api.OK {
		return nil, e
	}
	var out []int
	for i, p := range points {
		if !seat[i].has(p) {
			out = append(out, i)
		}
	}
	return out, api.OK
}

// checklist is steps that are done one after the other.
type checklist struct {
	steps []Step
	next  int
	// signed is the first of the two persons whom the next step needs; before the first sign it is the empty string.
	signed string
}

// checkSteps returns the first error of steps, or OK.
func checkSteps(l []Step) api.Errno {
	names := check.Names{}
	return check.First(
		check.Count(len(l), MaxSteps),
		check.Each(l, func(s Step) api.Errno { return check.First(check.Name(s.Name), names.Take(s.Name)) }),
	)
}

// check returns the first error of a sign, or OK.
func (c *checklist) check(s Sign) api.Errno {
	at := slices.IndexFunc(c.steps, func(step Step) bool { return step.Name == s.Step })
	return check.First(
		check.When(at < 0, api.ErrUnknown),
		check.Name(s.Person),
		check.When(at < c.next, api.ErrOver),
		check.When(at > c.next, api.ErrOrder),
		check.When(s.Person == c.signed, api.ErrTwice),
	)
}

// sign signs the next step, or returns the first error of the sign.
func (c *checklist) sign(s Sign) api.Errno {
	if e := c.check(s); e != api.OK {
		return e
	}
	if c.steps[c.next].Two && c.signed == "" {
		c.signed = s.Person
		return api.OK
	}
	c.next++
	c.signed = ""
	return api.OK
}

// Open returns the steps that are not done.
func Open(steps []Step, signs []Sign) ([]string, api.Errno) {
	c := checklist{steps: steps}
	e := check.First(
		checkSteps(steps),
		check.When(len(signs) > MaxSigns, api.ErrMany),
		check.Each(signs, c.sign),
	)
	if e != api.OK {
		return nil, e
	}
	return lists.Mapped(steps[c.next:], func(s Step) string { return s.Name }), api.OK
}
