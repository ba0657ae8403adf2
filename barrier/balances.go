package barrier

import (
	"slices"

	"crumple/api"
	"crumple/check"
	"crumple/interval"
	"crumple/lists"
)

// moving is a part with its momentum before and after.
type moving struct {
	Part
	momenta [2]api.Interval
}

// CheckParts returns the first error of parts, or OK.
func CheckParts(l []Part) api.Errno {
	names := check.Names{}
	return check.First(
		check.Count(len(l), MaxParts),
		check.Each(l, func(p Part) api.Errno {
			return check.First(
				check.Name(p.Name),
				names.Take(p.Name),
				check.Interval(p.Mass, 1, MaxMass),
				check.Interval(p.Before, -MaxSpeed, MaxSpeed),
				check.Interval(p.After, -MaxSpeed, MaxSpeed),
			)
		}),
	)
}

// weighed returns a part with its momentum.
func weighed(p Part) moving {
	m := moving{Part: p}
	for i, speed := range [...]api.Interval{m.Before, m.After} {
		m.momenta[i] = interval.Product(m.Mass, speed)
	}
	return m
}

// moves reports whether a part has a momentum at all.
func (m moving) moves() bool {
	return m.momenta != [2]api.Interval{}
}

// momenta returns the momentum of parts before and after.
func momenta(l []Part) [2]api.Interval {
	var sums [2]api.Interval
	for _, m := range lists.Kept(lists.Mapped(l, weighed), moving.moves) {
		for i, x := range m.momenta {
			sums[i] = interval.Sum(sums[i], x)
		}
	}
	return sums
}

// change returns the change of momentum.
func change(l []Part) api.Interval {
	sums := momenta(l)
	return interval.Sum(sums[1], interval.Opposite(sums[0]))
}

// Momentum returns the momentum before and after.
func Momentum(l []Part) (api.Interval, api.Interval, api.Errno) {
	if e := CheckParts(l); e != api.OK {
		return api.Interval{}, api.Interval{}, e
	}
	sums := momenta(l)
	return sums[0], sums[1], api.OK
}

// Change returns the change of momentum.
func Change(l []Part) (api.Interval, api.Errno) {
	if e := CheckParts(l); e != api.OK {
		return api.Interval{}, e
	}
	return change(l), api.OK
}

// balanced reports whether a test is in balance.
func balanced(parts []Part, wall []Load) bool {
	return interval.Meet(interval.Opposite(change(parts)), impulse(wall))
}

// Balanced reports whether a test is in balance.
func Balanced(parts []Part, wall []Load) (bool, api.Errno) {
	if e := check.First(CheckParts(parts), CheckWall(wall)); e != api.OK {
		return false, e
	}
	return balanced(parts, wall), api.OK
}

// freed returns a wall of which one cell may have measured anything that it can measure.
func freed(wall []Load, cell int) []Load {
	changed := slices.Clone(wall)
	changed[cell].Samples = make([]int, len(wall[cell].Samples))
	changed[cell].Error = wall[cell].Scale
	return changed
}

// Explaining returns the names of the cells that explain a test.
func Explaining(parts []Part, wall []Load) ([]string, api.Errno) {
	isBalanced, e := Balanced(parts, wall)
	if e := check.First(e, check.When(isBalanced, api.ErrRule)); e != api.OK {
		return nil, e
	}
	var names []string
	for i, c := range wall {
		if balanced(parts, freed(wall, i)) {
			names = append(names, c.Name)
		}
	}
	return names, api.OK
}
