package pulse

import (
	"slices"

	"crumple/api"
	"crumple/check"
	"crumple/quotient"
)

// CheckSled returns the first error of a sled, or OK.
func CheckSled(s Sled) api.Errno {
	return check.First(
		check.Interval(s.Gain, 1, MaxGain),
		check.Within(s.Lag, 1, MaxLag),
		check.Within(s.Delay, 0, MaxDelay),
		check.Within(s.Load, 1, MaxLoad),
	)
}

// CheckSetting returns the first error of a setting, or OK.
func CheckSetting(l []Step) api.Errno {
	// From where to where the next step may begin: the first one is at 0.
	from, to := 0, 0
	return check.First(check.Count(len(l), MaxSteps), check.Each(l, func(s Step) api.Errno {
		e := check.First(
			check.Within(s.From, 0, MaxTicks),
			check.Within(s.Valve, 0, Full),
			check.When(s.From < from || s.From > to, api.ErrOrder),
		)
		from, to = s.From+1, MaxTicks
		return e
	}))
}

// checkTicks returns ErrRange if a number of ticks is not in its range, or OK.
func checkTicks(n int) api.Errno {
	return check.Within(n, 1, MaxTicks)
}

// checkGain returns ErrRange if a gain is none of the sled's, or OK.
func (s Sled) checkGain(gain int) api.Errno {
	return check.Within(gain, s.Gain.Low, s.Gain.High)
}

// valves returns the valves at some ticks, from 0 on.
func valves(l []Step, n int) []int {
	var valves []int
ticks:
	for tick := range n {
		for _, s := range slices.Backward(l) {
			if s.From <= tick {
				valves = append(valves, s.Valve)
				continue ticks
			}
		}
	}
	return valves
}

// Valves returns the valves at the ticks from 0 on.
func Valves(l []Step, n int) ([]int, api.Errno) {
	if e := check.First(CheckSetting(l), checkTicks(n)); e != api.OK {
		return nil, e
	}
	return valves(l, n), api.OK
}

// run returns the run of a setting by a gain.
func (s Sled) run(l []Step, gain, n int) []int {
	valves := valves(l, n)
	acceleration := 0
	var run []int
	for tick := range n {
		wish := quotient.Down(gain*valves[max(0, tick-s.Delay)], Full)
		acceleration += quotient.Down(wish-acceleration, s.Lag)
		run = append(run, acceleration)
	}
	return run
}

// enclosed returns the enclosure of a setting.
func (s Sled) enclosed(l []Step, n int) []api.Interval {
	// The run of the greatest gain is nowhere below that of the least one.
	return spread([][]int{s.run(l, s.Gain.Low, n), s.run(l, s.Gain.High, n)})
}

// safe reports whether a setting is safe.
func (s Sled) safe(l []Step, n int) bool {
	return !slices.ContainsFunc(s.enclosed(l, n), func(x api.Interval) bool { return x.High > s.Load })
}

// Run returns the run of a setting by a gain.
func Run(s Sled, l []Step, gain, n int) ([]int, api.Errno) {
	if e := check.First(CheckSled(s), CheckSetting(l), s.checkGain(gain), checkTicks(n)); e != api.OK {
		return nil, e
	}
	return s.run(l, gain, n), api.OK
}

// Enclosed returns the enclosure of a setting.
func Enclosed(s Sled, l []Step, n int) ([]api.Interval, api.Errno) {
	if e := check.First(CheckSled(s), CheckSetting(l), checkTicks(n)); e != api.OK {
		return nil, e
	}
	return s.enclosed(l, n), api.OK
}

// Safe reports whether a setting is safe.
func Safe(s Sled, l []Step, n int) (bool, api.Errno) {
	if e := check.First(CheckSled(s), CheckSetting(l), checkTicks(n)); e != api.OK {
		return false, e
	}
	return s.safe(l, n), api.OK
}
