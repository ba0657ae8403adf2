package pulse

import (
	"cmp"
	"iter"
	"slices"

	"crumple/api"
	"crumple/check"
	"crumple/interval"
)

// set is the indices of some packs, and the sum of their impulses.
type set struct {
	indices []int
	impulse int
}

// priced is a set with the sum of its costs.
type priced struct {
	set
	cost int
}

// CheckPacks returns the first error of packs, or OK.
func CheckPacks(l []Pack) api.Errno {
	names := check.Names{}
	return check.First(check.When(len(l) > MaxPacks, api.ErrMany), check.Each(l, func(p Pack) api.Errno {
		return check.First(
			check.Name(p.Name),
			names.Take(p.Name),
			check.Within(p.Force, 0, MaxForce),
			check.Within(p.Time, 1, MaxTicks),
			check.Within(p.Cost, 0, MaxCost),
		)
	}))
}

// checkSet returns the first error of a set, or OK.
func checkSet(indices []int, packs int) api.Errno {
	// All indices may come after this one.
	before := -1
	return check.First(
		check.Each(indices, func(i int) api.Errno { return check.When(i < 0 || i >= packs, api.ErrUnknown) }),
		check.Each(indices, func(i int) api.Errno {
			e := check.When(i <= before, api.ErrOrder)
			before = i
			return e
		}),
	)
}

// checkTarget returns the first error of a target, or OK.
func checkTarget(target api.Interval) api.Errno {
	return check.Interval(target, 0, MaxImpulse)
}

// impulse returns the impulse of a pack.
func (p Pack) impulse() int {
	return p.Force * p.Time
}

// chosen returns a set with the sums of its packs.
func chosen(l []Pack, indices []int) priced {
	s := priced{set: set{indices: indices}}
	for _, i := range indices {
		s.impulse += l[i].impulse()
		s.cost += l[i].Cost
	}
	return s
}

// sets visits all sets of packs.
func sets(l []Pack) iter.Seq[priced] {
	return func(visit func(priced) bool) {
		// Each number has a bit for each pack.
		for number := range 1 << len(l) {
			var indices []int
			for i := range len(l) {
				if number>>i&1 == 1 {
					indices = append(indices, i)
				}
			}
			if !visit(chosen(l, indices)) {
				return
			}
		}
	}
}

// fits reports whether a set fits a target.
func (s set) fits(target api.Interval) bool {
	return interval.Has(target, interval.Only(s.impulse))
}

// compare compares two sets by their costs; of two with one cost that with fewer packs is the lesser, then the first one.
func (s priced) compare(other priced) int {
	return cmp.Or(
		cmp.Compare(s.cost, other.cost),
		cmp.Compare(len(s.indices), len(other.indices)),
		slices.Compare(s.indices, other.indices),
	)
}

// Fits reports whether a set of packs fits a target.
func Fits(l []Pack, set []int, target api.Interval) (bool, api.Errno) {
	if e := check.First(CheckPacks(l), checkSet(set, len(l)), checkTarget(target)); e != api.OK {
		return false, e
	}
	return chosen(l, set).fits(target), api.OK
}

// Cheapest returns the cheapest set of packs, and its cost.
func Cheapest(l []Pack, target api.Interval) ([]int, int, api.Errno) {
	if e := check.First(CheckPacks(l), checkTarget(target)); e != api.OK {
		return nil, 0, e
	}
	var fitting []priced
	for s := range sets(l) {
		if s.fits(target) {
			fitting = append(fitting, s)
		}
	}
	if len(fitting) == 0 {
		return nil, 0, api.ErrInfeasible
	}
	cheapest := slices.MinFunc(fitting, priced.compare)
	return cheapest.indices, cheapest.cost, api.OK
}

// Bound returns the bound of a price.
func Bound(l []Pack, target api.Interval, price int) (int, api.Errno) {
	e := check.First(CheckPacks(l), checkTarget(target), check.Within(price, -MaxPrice, MaxPrice))
	if e != api.OK {
		return 0, e
	}
	end := target.Low
	if price < 0 {
		end = target.High
	}
	bound := price * end
	for _, p := range l {
		bound += min(0, p.Cost-price*p.impulse())
	}
	return bound, api.OK
}
