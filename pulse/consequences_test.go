package pulse_test

import (
	"fmt"
	"slices"
	"testing"

	"crumple/api"
	"crumple/pulse"
)

// P8.5 (consequences): what follows from the results, for many inputs; the dice are the same on each run.

// wantWithin checks that each number of a list lies in its interval.
func wantWithin(t *testing.T, what string, l []int, within []api.Interval) {
	t.Helper()
	want(t, what+", the number of ticks", len(l), len(within))
	for i, x := range l {
		want(t, fmt.Sprintf("whether %d is in %v of %s", x, within[i], what), within[i].Low <= x && x <= within[i].High, true)
	}
}

func TestTheRunOfEachGainLiesInTheEnclosure(t *testing.T) {
	r := dice(10)
	for range 1000 {
		n := someTicks(r)
		s, l := someSled(r), someSetting(r, n)
		enclosed, e := pulse.Enclosed(s, l, n)
		want(t, "Enclosed", e, api.OK)
		safe, e := pulse.Safe(s, l, n)
		want(t, "Safe", e, api.OK)
		for range 5 {
			gain := between(r, s.Gain.Low, s.Gain.High)
			run, e := pulse.Run(s, l, gain, n)
			what := fmt.Sprintf("the run of %v with %v by %d over %d", s, l, gain, n)
			want(t, what, e, api.OK)
			wantWithin(t, what, run, enclosed)
			if safe {
				want(t, "whether it exceeds the load: "+what, slices.Max(run) > s.Load, false)
			}
		}
		// Both ends are those of a run: the enclosure is no wider than it must be.
		for i, gain := range [2]int{s.Gain.Low, s.Gain.High} {
			run, e := pulse.Run(s, l, gain, n)
			want(t, "Run", e, api.OK)
			for tick, x := range enclosed {
				want(t, fmt.Sprintf("the end %d of %v with %v over %d at %d", i, s, l, n, tick), run[tick], [2]int{x.Low, x.High}[i])
			}
		}
	}
}

func TestGreaterValvesLeadToNoLesserAccelerations(t *testing.T) {
	r := dice(11)
	greater := 0
	for range 3000 {
		n := someTicks(r)
		s, l := someSled(r), someSetting(r, n)
		more := slices.Clone(l)
		for i := range more {
			more[i].Valve = min(pulse.Full, more[i].Valve+one(r, []int{0, 0, 1, 7, 50}))
		}
		gain := between(r, s.Gain.Low, s.Gain.High)
		a, e := pulse.Run(s, l, gain, n)
		want(t, "Run", e, api.OK)
		b, e := pulse.Run(s, more, gain, n)
		want(t, "Run", e, api.OK)
		for tick := range n {
			want(t, fmt.Sprintf("whether the acceleration of %v is less at %d, by %d, with %v than with %v", s, tick, gain, more, l), b[tick] < a[tick], false)
		}
		if !slices.Equal(a, b) {
			greater++
		}
	}
	want(t, "whether many runs are greater", greater > 1000, true)
}

func TestNoRunExceedsTheLoadAtAnyStageOfLearning(t *testing.T) {
	r := dice(12)
	learned, most := 0, 0
	for range 4000 {
		n := someTicks(r)
		s, l := someSled(r), someSetting(r, n)
		// The corridor is often above the load.
		c, measured := someCorridor(r, n, s.Gain.High)
		safe, e := pulse.Safe(s, l, n)
		want(t, "Safe", e, api.OK)
		step := between(r, 1, one(r, []int{3, 20, pulse.Full}))
		gain := between(r, s.Gain.Low, s.Gain.High)
		next, e := pulse.Learned(s, l, c, measured, step)
		want(t, "whether something is learned", e == api.OK, safe)
		stages, e := pulse.Learning(s, l, c, gain, [2]int{pulse.MaxRounds, step})
		want(t, "whether there is learning", e == api.OK, safe)
		if !safe {
			continue
		}
		learned++
		want(t, "the first setting", stages[0], l)
		for _, setting := range append(stages, next) {
			what := fmt.Sprintf("the setting %v for %v over %d", setting, s, n)
			safe, e := pulse.Safe(s, setting, n)
			wantOK(t, "Safe of "+what, safe, e, true)
			run, e := pulse.Run(s, setting, between(r, s.Gain.Low, s.Gain.High), n)
			want(t, "Run of "+what, e, api.OK)
			want(t, "whether a run exceeds the load with "+what, slices.Max(run) > s.Load, false)
			if slices.Max(run) == s.Load {
				most++
			}
		}
	}
	want(t, "whether many settings are learned, and loads are met", learned > 1000 && most > 100, true)
}

func TestEachStageIsLearnedFromTheRunBefore(t *testing.T) {
	r := dice(13)
	for range 1000 {
		n := someTicks(r)
		s, l := someSled(r), steps(0, 0)
		c, _ := someCorridor(r, n, s.Gain.High)
		gain, step := between(r, s.Gain.Low, s.Gain.High), between(r, 1, pulse.Full)
		stages, e := pulse.Learning(s, l, c, gain, [2]int{between(r, 0, pulse.MaxRounds), step})
		want(t, "Learning", e, api.OK)
		for _, stage := range stages {
			want(t, "the stage", stage, l)
			run, e := pulse.Run(s, l, gain, n)
			want(t, "Run", e, api.OK)
			l, e = pulse.Learned(s, l, c, run, step)
			want(t, "Learned", e, api.OK)
		}
	}
}

func TestPulsesAreInsideIfTheirExcessIsZero(t *testing.T) {
	r := dice(14)
	for range 2000 {
		c, l := someCorridor(r, between(r, 1, 6), 20)
		what := fmt.Sprintf(" of %v in %v", l, c)
		excess, at, e := pulse.Excess(c, l)
		want(t, "Excess"+what, e, api.OK)
		is, e := pulse.Inside(c, l)
		wantOK(t, "Inside"+what, is, e, excess == 0)
		// Within a corridor that is wider by the excess it is inside, by one less it is not.
		if excess > 0 {
			want(t, "whether the tick has the excess"+what, l[at] == c[at].High+excess || l[at] == c[at].Low-excess, true)
			for _, less := range []int{0, 1} {
				wider, up := slices.Clone(c), slices.Clone(l)
				for i, x := range c {
					// All is moved up, so that no Low is below 0.
					wider[i], up[i] = to(x.Low+100-excess+less, x.High+100+excess-less), l[i]+100
				}
				is, e := pulse.Inside(wider, up)
				wantOK(t, fmt.Sprintf("Inside, wider by %d", excess-less)+what, is, e, less == 0)
			}
		}
	}
}

func TestSpeedsOfTwoPulsesAreAdded(t *testing.T) {
	r := dice(15)
	for range 1000 {
		n := someTicks(r)
		var pulses [3][]int
		for range n {
			a, b := between(r, -pulse.MaxPulse/2, pulse.MaxPulse/2), between(r, -pulse.MaxPulse/2, pulse.MaxPulse/2)
			for i, x := range [3]int{a, b, a + b} {
				pulses[i] = append(pulses[i], x)
			}
		}
		for name, of := range map[string]func([]int) ([]int, api.Errno){"Speeds": pulse.Speeds, "Ways": pulse.Ways} {
			var results [3][]int
			for i, l := range pulses {
				result, e := of(l)
				want(t, name, e, api.OK)
				results[i] = result
			}
			for tick := range n {
				want(t, fmt.Sprintf("%s of %v at %d", name, pulses, tick), results[2][tick], results[0][tick]+results[1][tick])
			}
		}
		speeds, e := pulse.Speeds(pulses[0])
		want(t, "Speeds", e, api.OK)
		// The ways are the sums of the speeds.
		if slices.Max(speeds) <= pulse.MaxPulse && slices.Min(speeds) >= -pulse.MaxPulse {
			again, e := pulse.Speeds(speeds)
			want(t, "Speeds", e, api.OK)
			ways, e := pulse.Ways(pulses[0])
			wantOK(t, "Ways", ways, e, again)
		}
	}
}

func TestNoSetCostsLessThanTheCheapestOne(t *testing.T) {
	r := dice(16)
	found, met := 0, 0
	for range 1000 {
		l := somePacks(r)
		target := someTarget(r, l)
		what := fmt.Sprintf(" of %v for %v", l, target)
		best, least, e := pulse.Cheapest(l, target)
		if e == api.ErrInfeasible {
			for _, set := range slowSets(len(l)) {
				fits, e := pulse.Fits(l, set, target)
				wantOK(t, "Fits"+what, fits, e, false)
			}
			continue
		}
		found++
		want(t, "Cheapest"+what, e, api.OK)
		fits, e := pulse.Fits(l, best, target)
		wantOK(t, "whether the cheapest set fits"+what, fits, e, true)
		_, cost := slowSums(l, best)
		want(t, "the cost"+what, cost, least)
		for _, set := range slowSets(len(l)) {
			fits, e := pulse.Fits(l, set, target)
			want(t, "Fits"+what, e, api.OK)
			_, cost := slowSums(l, set)
			want(t, fmt.Sprintf("whether %v fits and costs less than %v", set, best)+what, fits && cost < least, false)
		}
		for price := -20; price <= 20; price++ {
			bound, e := pulse.Bound(l, target, price)
			want(t, "Bound"+what, e, api.OK)
			want(t, fmt.Sprintf("whether the bound of %d is above %d", price, least)+what, bound > least, false)
			if bound == least {
				met++
			}
		}
	}
	want(t, "whether many are found, and many bounds are the costs", found > 500 && met > 500, true)
}

func TestRunsAndTheirMeanLieInTheSpread(t *testing.T) {
	r := dice(17)
	for range 1000 {
		l := someRuns(r)
		what := fmt.Sprintf("%v", l)
		spread, e := pulse.Spread(l)
		want(t, "Spread", e, api.OK)
		for _, run := range l {
			wantWithin(t, "a run of "+what, run, spread)
		}
		mean, e := pulse.Mean(l)
		want(t, "Mean", e, api.OK)
		wantWithin(t, "the mean of "+what, mean, spread)
		// Neither depends on the order of the runs.
		others := slices.Clone(l)
		slices.Reverse(others)
		again, e := pulse.Spread(others)
		wantOK(t, "Spread of "+what, again, e, spread)
		same, e := pulse.Mean(others)
		wantOK(t, "Mean of "+what, same, e, mean)
		// A run is alike with itself.
		alike, e := pulse.Alike([][]int{l[0], l[0]}, 0)
		wantOK(t, "Alike", alike, e, true)
	}
}

func TestPartsOfASlopeMakeTheWhole(t *testing.T) {
	r := dice(18)
	all := slopes(100)
	for range 1000 {
		s, l := one(r, all), somePulse(r, someTicks(r))
		what := fmt.Sprintf(" of %v by %v", l, s)
		along, across, e := pulse.Split(s, l)
		want(t, "Split"+what, e, api.OK)
		for i, a := range l {
			whole := to(along[i].Low*s.Along+across[i].Low*s.Across, along[i].High*s.Along+across[i].High*s.Across)
			want(t, fmt.Sprintf("whether %d is in %v", a*s.Whole, whole)+what, whole.Low <= a*s.Whole && a*s.Whole <= whole.High, true)
		}
		// With both sides changed both parts are, too.
		second, first, e := pulse.Split(pulse.Slope{Along: s.Across, Across: s.Along, Whole: s.Whole}, l)
		wantOK(t, "Split of the other slope"+what, parts{first, second}, e, parts{along, across})
	}
}

func TestSettingsAreParsedAsTheyWerePrinted(t *testing.T) {
	r := dice(19)
	for range 2000 {
		l := someSetting(r, pulse.MaxTicks)
		s, e := pulse.Print(l)
		want(t, "Print", e, api.OK)
		again, i, e := pulse.Parse(s)
		wantOK(t, fmt.Sprintf("Parse of %q", s), again, e, l)
		want(t, "the index of Parse", i, 0)
	}
}
