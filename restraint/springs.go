package restraint

import (
	"slices"

	"crumple/api"
	"crumple/check"
	"crumple/quotient"
)

// minPoints is the fewest points of a spring.
const minPoints = 2

// CheckSpring returns the first error of a spring, or OK.
func CheckSpring(s Spring) api.Errno {
	// From where to where the next point may be: the first one is at 0.
	from, to := 0, 0
	return check.First(
		check.When(len(s) < minPoints, api.ErrShort),
		check.When(len(s) > MaxPoints, api.ErrMany),
		check.Each(s, func(p api.Point) api.Errno {
			e := check.First(
				check.Within(p.X, 0, MaxWay),
				check.Within(p.Y, 0, MaxForce),
				check.When(p.X < from || p.X > to, api.ErrOrder),
			)
			from, to = p.X+1, MaxWay
			return e
		}),
	)
}

// force returns the force of a spring at a way.
func (s Spring) force(way int) int {
	if way <= 0 {
		return 0
	}
	next := slices.IndexFunc(s, func(p api.Point) bool { return p.X > way })
	if next < 0 {
		return s[len(s)-1].Y
	}
	a, b := s[next-1], s[next]
	return a.Y + quotient.Down((b.Y-a.Y)*(way-a.X), b.X-a.X)
}

// Force returns the force of a spring at a way.
func Force(s Spring, way int) (int, api.Errno) {
	if e := check.First(CheckSpring(s), check.Within(way, -MaxAnswer, MaxAnswer)); e != api.OK {
		return 0, e
	}
	return s.force(way), api.OK
}
