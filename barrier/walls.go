package barrier

import (
	"cmp"
	"slices"

	"crumple/api"
	"crumple/check"
	"crumple/interval"
	"crumple/lists"
	"crumple/quotient"
	"crumple/record"
)

// peak is a force with its index.
type peak struct {
	force int
	at    int
}

// CheckWall returns the first error of a wall, or OK.
func CheckWall(l []Load) api.Errno {
	names := check.Names{}
	return check.First(
		check.Count(len(l), MaxLoads),
		check.Each(l, func(c Load) api.Errno {
			return check.First(check.Name(c.Name), names.Take(c.Name), c.check(times(l)))
		}),
	)
}

// times returns the number of samples of a wall's first cell.
func times(l []Load) int {
	if len(l) == 0 {
		return 0
	}
	return len(l[0].Samples)
}

// check returns the first error of a cell but those of its name, or OK.
func (c Load) check(times int) api.Errno {
	return check.First(
		check.Within(c.At.X, 0, MaxPlace),
		check.Within(c.At.Y, 0, MaxPlace),
		check.Within(c.Scale, 1, MaxForce),
		check.Within(c.Error, 0, MaxForce),
		check.Count(len(c.Samples), MaxTimes),
		check.When(len(c.Samples) != times, api.ErrShape),
		check.Each(c.Samples, func(x int) api.Errno { return check.Within(x, -c.Scale, c.Scale) }),
	)
}

// impulse returns the impulse of a cell.
func (c Load) impulse() api.Interval {
	sum := 0
	for _, x := range c.Samples {
		sum += x
	}
	return interval.Product(interval.Around(sum, c.Error*len(c.Samples)), interval.Only(Factor))
}

// impulse returns the impulse of a wall.
func impulse(l []Load) api.Interval {
	return interval.Sum(lists.Mapped(l, Load.impulse)...)
}

// Impulse returns the impulse of a wall.
func Impulse(l []Load) (api.Interval, api.Errno) {
	if e := CheckWall(l); e != api.OK {
		return api.Interval{}, e
	}
	return impulse(l), api.OK
}

// weighted returns the sum of all samples at an index, each times a weight of its cell.
func weighted(l []Load, index int, weight func(Load) int) int {
	sum := 0
	for _, c := range l {
		sum += weight(c) * c.Samples[index]
	}
	return sum
}

// force returns the sum of all samples at an index.
func force(l []Load, index int) int {
	return weighted(l, index, func(Load) int { return 1 })
}

// compare compares two peaks by their forces.
func (p peak) compare(other peak) int {
	return cmp.Compare(p.force, other.force)
}

// Peak returns the greatest force, and its first index.
func Peak(l []Load) (int, int, api.Errno) {
	if e := CheckWall(l); e != api.OK {
		return 0, 0, e
	}
	var all []peak
	for i := range times(l) {
		all = append(all, peak{force: force(l, i), at: i})
	}
	greatest := slices.MaxFunc(all, peak.compare)
	return greatest.force, greatest.at, api.OK
}

// centre returns the quotient of a sum by a force, which is not 0, and ErrLarge if it is no ratio.
func centre(sum, force int) (api.Ratio, api.Errno) {
	if force < 0 {
		sum, force = -sum, -force
	}
	x := quotient.Ratio(sum, force)
	return x, check.When(record.CheckRatio(x) != api.OK, api.ErrLarge)
}

// Centre returns the centre of the forces at an index.
func Centre(l []Load, index int) (api.Ratio, api.Ratio, api.Errno) {
	e := check.First(CheckWall(l), check.When(index < 0 || index >= times(l), api.ErrUnknown))
	if e != api.OK {
		return api.Ratio{}, api.Ratio{}, e
	}
	all := force(l, index)
	if all == 0 {
		return api.Ratio{}, api.Ratio{}, api.ErrZero
	}
	x, noX := centre(weighted(l, index, func(c Load) int { return c.At.X }), all)
	y, noY := centre(weighted(l, index, func(c Load) int { return c.At.Y }), all)
	if e := check.First(noX, noY); e != api.OK {
		return api.Ratio{}, api.Ratio{}, e
	}
	return x, y, api.OK
}

// checkWays returns the first error of as many ways as there are forces, or OK.
func checkWays(l []int, forces int) api.Errno {
	return check.First(
		check.When(len(l) != forces, api.ErrShape),
		check.Each(l, func(way int) api.Errno { return check.Within(way, 0, MaxPlace) }),
		check.When(!slices.IsSorted(l), api.ErrOrder),
	)
}

// Crush returns twice the energy of forces over ways.
func Crush(forces, ways []int) (int, api.Errno) {
	e := check.First(
		check.Count(len(forces), MaxTimes),
		check.Each(forces, func(force int) api.Errno { return check.Within(force, -MaxForce, MaxForce) }),
		checkWays(ways, len(forces)),
	)
	if e != api.OK {
		return 0, e
	}
	sum := 0
	for i, way := range ways[1:] {
		sum += (forces[i] + forces[i+1]) * (way - ways[i])
	}
	return sum, api.OK
}
