package pulse_test

import (
	"math/rand/v2"
	"testing"

	"crumple/api"
	"crumple/pulse"
)

// Rules that hold everywhere: arguments stay as they are, results share no memory, and no argument makes a function panic.

func TestArgumentsStayAsTheyAre(t *testing.T) {
	l, c, measuredPulse, p, runs := safer(), corridor(), measured(), packs(), [][]int{{1, 5}, {3, 4}}
	set := []int{0, 2}
	for range 2 {
		pulse.CheckSetting(l)
		valves, e := pulse.Valves(l, 4)
		wantOK(t, "Valves", valves, e, []int{30, 30, 30, 20})
		clear(valves)
		run, e := pulse.Run(sled(), l, 100, 4)
		wantOK(t, "Run", run, e, measured())
		clear(run)
		enclosed, e := pulse.Enclosed(sled(), l, 2)
		wantOK(t, "Enclosed", enclosed, e, intervals(15, 30, 22, 45))
		clear(enclosed)
		pulse.Safe(sled(), l, 4)
		pulse.CheckCorridor(c)
		pulse.Inside(c, measuredPulse)
		pulse.Excess(c, measuredPulse)
		speeds, e := pulse.Speeds(measuredPulse)
		wantOK(t, "Speeds", speeds, e, []int{15, 37, 63, 91})
		clear(speeds)
		ways, e := pulse.Ways(measuredPulse)
		wantOK(t, "Ways", ways, e, []int{15, 52, 115, 206})
		clear(ways)
		// A setting is no list of an argument, whether anything is learned or not.
		for _, x := range [][]int{measuredPulse, {30, 30, 30, 30}} {
			learned, e := pulse.Learned(sled(), l, c, x, 2)
			want(t, "Learned", e, api.OK)
			clear(learned)
		}
		pulse.CheckPacks(p)
		pulse.Fits(p, set, to(60, 70))
		cheapest, _, e := pulse.Cheapest(p, to(60, 70))
		wantOK(t, "Cheapest", cheapest, e, set)
		clear(cheapest)
		pulse.Bound(p, to(60, 70), 1)
		spread, e := pulse.Spread(runs)
		wantOK(t, "Spread", spread, e, intervals(1, 3, 4, 5))
		clear(spread)
		mean, e := pulse.Mean(runs[:1])
		wantOK(t, "Mean", mean, e, []int{1, 5})
		clear(mean)
		pulse.Alike(runs, 1)
		pulse.Print(l)
		want(t, "the setting", l, safer())
		want(t, "the corridor", c, corridor())
		want(t, "the pulse", measuredPulse, measured())
		want(t, "the packs", p, packs())
		want(t, "the set", set, []int{0, 2})
		want(t, "the runs", runs, [][]int{{1, 5}, {3, 4}})
	}
}

func TestResultsShareNoMemory(t *testing.T) {
	// Nothing is learned in the second and third round, so that these settings are the same.
	wanted := [][]pulse.Step{safer(), steps(0, 32, 3, 20), steps(0, 32, 3, 20), steps(0, 32, 3, 20)}
	l := safer()
	for i := range wanted {
		settings, e := pulse.Learning(sled(), l, corridor(), 100, [2]int{3, 2})
		wantOK(t, "Learning", settings, e, wanted)
		clear(settings[i])
		_ = append(settings[i][:1], pulse.Step{From: 77})
		for j, other := range settings {
			if j != i {
				want(t, "another setting", other, wanted[j])
			}
		}
		want(t, "the setting", l, safer())
	}
	along, across, e := pulse.Split(pulse.Slope{Along: 3, Across: 4, Whole: 5}, []int{5, 5})
	want(t, "Split", e, api.OK)
	clear(along)
	want(t, "the other part", across, intervals(4, 4, 4, 4))
	// Where both parts are the same, too.
	again, across, e := pulse.Split(pulse.Slope{Along: 0, Across: 5, Whole: 5}, []int{0, 0})
	want(t, "Split", e, api.OK)
	again[0] = to(7, 7)
	want(t, "the other part", across, intervals(0, 0, 0, 0))
	first, _, e := pulse.Parse(settingText)
	want(t, "Parse", e, api.OK)
	clear(first)
	second, _, e := pulse.Parse(settingText)
	wantOK(t, "Parse again", second, e, setting())
}

// anyNumbers returns numbers that are hardly ever all in their ranges.
func anyNumbers(r *rand.Rand) func() int {
	numbers := append([]int{0, 1, 1, 2, 3, 5, -1, 8, 64, 100, 1000, 100000, pulse.MaxImpulse}, far...)
	most := between(r, 4, len(numbers))
	return func() int { return one(r, numbers[:most]) }
}

func TestNothingPanics(t *testing.T) {
	r := dice(20)
	for range 5000 {
		number := anyNumbers(r)
		anySled := pulse.Sled{Gain: to(number(), number()), Lag: number(), Delay: number(), Load: number()}
		slope := pulse.Slope{Along: number(), Across: number(), Whole: number()}
		var anySteps []pulse.Step
		var anyCorridor []api.Interval
		var anyPulse []int
		var anyPacks []pulse.Pack
		var anyRuns [][]int
		for range r.IntN(5) {
			anySteps = append(anySteps, pulse.Step{From: number(), Valve: number()})
			anyPacks = append(anyPacks, pulse.Pack{Name: one(r, []string{"", "a", "b", "c", "-"}), Force: number(), Time: number(), Cost: number()})
		}
		for range r.IntN(5) {
			anyCorridor = append(anyCorridor, to(number(), number()))
		}
		for range r.IntN(5) {
			anyPulse = append(anyPulse, number())
			anyRuns = append(anyRuns, anyPulse)
		}
		pulse.CheckSled(anySled)
		pulse.CheckSlope(slope)
		pulse.Split(slope, anyPulse)
		pulse.Split(pulse.Slope{Along: 3, Across: 4, Whole: 5}, anyPulse)
		pulse.Speeds(anyPulse)
		pulse.Ways(anyPulse)
		pulse.Spread(anyRuns)
		pulse.Mean(anyRuns)
		pulse.Alike(anyRuns, number())
		// Each argument that is wrong comes with others that are right, too.
		for _, l := range [][]pulse.Pack{anyPacks, packs()} {
			pulse.CheckPacks(l)
			pulse.Fits(l, anyPulse, to(number(), number()))
			pulse.Cheapest(l, to(number(), number()))
			pulse.Bound(l, to(number(), number()), number())
		}
		for _, l := range [][]pulse.Step{anySteps, safer()} {
			pulse.CheckSetting(l)
			pulse.Valves(l, number())
			pulse.Print(l)
			for _, s := range []pulse.Sled{anySled, sled()} {
				pulse.Run(s, l, number(), number())
				pulse.Enclosed(s, l, number())
				pulse.Safe(s, l, number())
				for _, c := range [][]api.Interval{anyCorridor, corridor()} {
					pulse.Learned(s, l, c, anyPulse, number())
					pulse.Learning(s, l, c, number(), [2]int{number(), number()})
				}
			}
		}
		for _, c := range [][]api.Interval{anyCorridor, corridor()} {
			pulse.CheckCorridor(c)
			pulse.Inside(c, anyPulse)
			pulse.Excess(c, anyPulse)
		}
	}
}

func TestNoStringPanics(t *testing.T) {
	r := dice(21)
	bytes := []byte("step0149 -\n\x00")
	for range 5000 {
		s := []byte(settingText)
		for range between(r, 0, 5) {
			s[r.IntN(len(s))] = one(r, bytes)
		}
		s = s[:between(r, 0, len(s))]
		l, i, e := pulse.Parse(string(s))
		if e == api.OK {
			again, e := pulse.Print(l)
			wantOK(t, "Print", again, e, string(s))
		} else {
			wantError(t, "Parse", l, e, e)
		}
		want(t, "whether the index is that of a line", i >= 0 && i <= 20, true)
	}
}
