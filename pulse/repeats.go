package pulse

import (
	"slices"

	"crumple/api"
	"crumple/check"
	"crumple/lists"
	"crumple/quotient"
)

// checkRuns returns the first error of runs, or OK.
func checkRuns(l [][]int) api.Errno {
	return check.First(check.Count(len(l), MaxRuns), check.Each(l, func(run []int) api.Errno {
		return check.First(checkPulse(run), check.When(len(run) != len(l[0]), api.ErrShape))
	}))
}

// byTicks returns, for each tick, the accelerations of all runs.
func byTicks(l [][]int) [][]int {
	var ticks [][]int
	for tick := range len(l[0]) {
		ticks = append(ticks, lists.Mapped(l, func(run []int) int { return run[tick] }))
	}
	return ticks
}

// spread returns the spread of runs.
func spread(l [][]int) []api.Interval {
	return lists.Mapped(byTicks(l), func(tick []int) api.Interval {
		return api.Interval{Low: slices.Min(tick), High: slices.Max(tick)}
	})
}

// Spread returns the spread of runs.
func Spread(l [][]int) ([]api.Interval, api.Errno) {
	if e := checkRuns(l); e != api.OK {
		return nil, e
	}
	return spread(l), api.OK
}

// Mean returns the mean of runs.
func Mean(l [][]int) ([]int, api.Errno) {
	if e := checkRuns(l); e != api.OK {
		return nil, e
	}
	return lists.Mapped(byTicks(l), func(tick []int) int {
		sum := 0
		for _, acceleration := range tick {
			sum += acceleration
		}
		return quotient.Nearest(sum, len(tick))
	}), api.OK
}

// Alike reports whether runs are alike within a tolerance.
func Alike(l [][]int, tolerance int) (bool, api.Errno) {
	if e := check.First(checkRuns(l), check.Within(tolerance, 0, MaxPulse)); e != api.OK {
		return false, e
	}
	isWider := func(x api.Interval) bool { return x.High-x.Low > tolerance }
	return !slices.ContainsFunc(spread(l), isWider), api.OK
}
