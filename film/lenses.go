package film

import (
	"crumple/api"
	"crumple/check"
	"crumple/interval"
	"crumple/quotient"
)

// The least and the greatest factor of a ring, in parts of Whole.
const (
	minFactor = 500
	maxFactor = 2000
)

// CheckLens returns the first error of a lens, or OK.
func CheckLens(l []Ring) api.Errno {
	// The first ring begins at 0, each other one above the ring before it.
	begin := interval.Only(0)
	return check.First(
		check.Count(len(l), MaxRings),
		check.Each(l, func(r Ring) api.Errno {
			e := check.First(
				check.Within(r.From, 0, MaxSquare),
				check.Within(r.Factor, minFactor, maxFactor),
				check.When(!interval.Has(begin, interval.Only(r.From)), api.ErrOrder),
			)
			begin = api.Interval{Low: r.From + 1, High: MaxSquare}
			return e
		}),
	)
}

// factor returns the factor of a lens at a square.
func factor(l []Ring, square int) int {
	factor := 0
search:
	for _, r := range l {
		switch {
		case r.From > square:
			break search
		default:
			factor = r.Factor
		}
	}
	return factor
}

// corrected returns the interval of a number that is multiplied by a factor.
func corrected(x, factor int) api.Interval {
	return api.Interval{Low: quotient.Down(x*factor, Whole), High: quotient.Up(x*factor, Whole)}
}

// Corrected returns the intervals of a point that is corrected.
func Corrected(l []Ring, p api.Point) (api.Interval, api.Interval, api.Errno) {
	e := check.First(
		CheckLens(l),
		check.Within(p.X, -MaxPixel, MaxPixel),
		check.Within(p.Y, -MaxPixel, MaxPixel),
	)
	if e != api.OK {
		return api.Interval{}, api.Interval{}, e
	}
	f := factor(l, p.X*p.X+p.Y*p.Y)
	return corrected(p.X, f), corrected(p.Y, f), api.OK
}
