package injury

import (
	"slices"

	"crumple/api"
	"crumple/check"
	"crumple/lists"
	"crumple/quotient"
)

// minWays is the fewest ways of which one is neither the first nor the last one.
const minWays = 3

// checkPair returns the first error of two series, or of two traces, or OK.
func checkPair[A any](a, b []A, first func([]A) api.Errno) api.Errno {
	return check.First(first(a), first(b), check.When(len(a) != len(b), api.ErrShape))
}

// checkLimits returns ErrRange if a limit is not in its range, or OK.
func checkLimits(limits [2]int) api.Errno {
	nearest := limits
	for i, x := range limits {
		nearest[i] = min(max(x, 1), MaxLimit)
	}
	return check.When(nearest != limits, api.ErrRange)
}

// combined returns the sums by limits of two lists of absolute values.
func combined(a, b []int, limits [2]int) []api.Ratio {
	var l []api.Ratio
	for i := range len(a) {
		l = append(l, quotient.Ratio(a[i]*limits[1]+b[i]*limits[0], limits[0]*limits[1]))
	}
	return l
}

// absolute returns the absolute values of integers.
func absolute(l []int) []int {
	return lists.Mapped(l, func(x int) int { return max(x, -x) })
}

// Combined returns the greatest sum of two series by their limits, and its index.
func Combined(a, b []int, limits [2]int) (api.Ratio, int, api.Errno) {
	if e := check.First(checkPair(a, b, CheckSeries), checkLimits(limits)); e != api.OK {
		return api.Ratio{}, 0, e
	}
	at, sum := greatest(combined(absolute(a), absolute(b), limits))
	return sum, at, api.OK
}

// Moments returns the moments about a joint.
func Moments(moment, force []int, shift int) ([]int, api.Errno) {
	e := check.First(checkPair(moment, force, CheckSeries), check.Within(shift, -MaxShift, MaxShift))
	if e != api.OK {
		return nil, e
	}
	moments := slices.Clone(moment)
	for i, x := range force {
		moments[i] -= shift * x
	}
	return moments, api.OK
}

// Viscous returns the greatest product of a way and its rate, and its index.
func Viscous(l []int) (int, int, api.Errno) {
	if e := check.First(CheckSeries(l), checkEnough(len(l), minWays)); e != api.OK {
		return 0, 0, e
	}
	var products []int
	for before := range len(l) - 2 {
		products = append(products, l[before+1]*(l[before+2]-l[before]))
	}
	product := slices.Max(products)
	return product, slices.Index(products, product) + 1, api.OK
}
