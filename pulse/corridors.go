package pulse

import (
	"slices"

	"crumple/api"
	"crumple/check"
	"crumple/lists"
)

// CheckCorridor returns the first error of a corridor, or OK.
func CheckCorridor(c []api.Interval) api.Errno {
	return check.First(check.Count(len(c), MaxTicks), check.Each(c, func(x api.Interval) api.Errno {
		return check.Interval(x, 0, MaxLoad)
	}))
}

// checkAccelerations returns ErrRange if an acceleration is not in its range, or OK.
func checkAccelerations(pulse []int) api.Errno {
	return check.Each(pulse, func(acceleration int) api.Errno {
		return check.Within(acceleration, -MaxPulse, MaxPulse)
	})
}

// checkPulse returns the first error of a pulse alone, or OK.
func checkPulse(pulse []int) api.Errno {
	return check.First(check.Count(len(pulse), MaxTicks), checkAccelerations(pulse))
}

// checkPulseFor returns the first error of a pulse for a corridor, or OK.
func checkPulseFor(c []api.Interval, pulse []int) api.Errno {
	return check.First(check.When(len(pulse) != len(c), api.ErrShape), checkAccelerations(pulse))
}

// beyond returns how far the accelerations of a pulse are below Low, and how far they are above High.
func beyond(c []api.Interval, pulse []int) [][2]int {
	var l [][2]int
	for tick, x := range c {
		l = append(l, [2]int{max(0, x.Low-pulse[tick]), max(0, pulse[tick]-x.High)})
	}
	return l
}

// Inside reports whether a pulse is inside a corridor.
func Inside(c []api.Interval, pulse []int) (bool, api.Errno) {
	if e := check.First(CheckCorridor(c), checkPulseFor(c, pulse)); e != api.OK {
		return false, e
	}
	isOutside := slices.ContainsFunc(beyond(c, pulse), func(ends [2]int) bool { return ends != [2]int{} })
	return !isOutside, api.OK
}

// Excess returns the excess of a pulse, and its tick.
func Excess(c []api.Interval, pulse []int) (int, int, api.Errno) {
	if e := check.First(CheckCorridor(c), checkPulseFor(c, pulse)); e != api.OK {
		return 0, 0, e
	}
	l := lists.Mapped(beyond(c, pulse), func(ends [2]int) int { return max(ends[0], ends[1]) })
	excess := slices.Max(l)
	return excess, slices.Index(l, excess), api.OK
}

// sums returns, for each integer of a list, the sum of all up to this one.
func sums(l []int) []int {
	sum := 0
	return lists.Mapped(l, func(x int) int {
		sum += x
		return sum
	})
}

// Speeds returns the speeds of a pulse.
func Speeds(pulse []int) ([]int, api.Errno) {
	if e := checkPulse(pulse); e != api.OK {
		return nil, e
	}
	return sums(pulse), api.OK
}

// Ways returns the ways of a pulse.
func Ways(pulse []int) ([]int, api.Errno) {
	if e := checkPulse(pulse); e != api.OK {
		return nil, e
	}
	return sums(sums(pulse)), api.OK
}
