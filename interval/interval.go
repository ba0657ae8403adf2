// Package interval adds, multiplies and compares intervals of integers. It is for all layers from channel on.
package interval

import "crumple/api"

// Only returns the interval of one number.
func Only(x int) api.Interval {
	return api.Interval{Low: x, High: x}
}

// Around returns the interval of all numbers that are at most a distance away from one.
func Around(x, distance int) api.Interval {
	return api.Interval{Low: x - distance, High: x + distance}
}

// Sum returns the interval of all sums of one number of each interval.
func Sum(l ...api.Interval) api.Interval {
	var sum api.Interval
	for _, x := range l {
		sum.Low += x.Low
		sum.High += x.High
	}
	return sum
}

// Opposite returns the interval of all numbers with the opposite sign.
func Opposite(x api.Interval) api.Interval {
	return api.Interval{Low: -x.High, High: -x.Low}
}

// Product returns the interval from the least to the greatest product of a number of each interval.
func Product(a, b api.Interval) api.Interval {
	c, d, e, f := a.Low*b.Low, a.Low*b.High, a.High*b.Low, a.High*b.High
	return api.Interval{Low: min(c, d, e, f), High: max(c, d, e, f)}
}

// Common returns what two intervals have in common; if that is nothing, its Low is above its High.
func Common(a, b api.Interval) api.Interval {
	return api.Interval{Low: max(a.Low, b.Low), High: min(a.High, b.High)}
}

// Meet reports whether two intervals have a number in common.
func Meet(a, b api.Interval) bool {
	common := Common(a, b)
	return common.Low <= common.High
}

// Has reports whether an interval lies in another one.
func Has(whole, part api.Interval) bool {
	return Common(whole, part) == part
}
