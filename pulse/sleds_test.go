package pulse_test

import (
	"fmt"
	"slices"
	"testing"

	"crumple/api"
	"crumple/pulse"
)

// P8.1 (runs): all functions with ordinary inputs, at their limits, and with their errors in their order.

func TestCheckSled(t *testing.T) {
	for _, s := range []pulse.Sled{
		sled(), {Gain: to(1, 1), Lag: 1, Delay: 0, Load: 1}, {Gain: to(1, pulse.MaxGain), Lag: pulse.MaxLag, Delay: pulse.MaxDelay, Load: pulse.MaxLoad}, {Gain: to(pulse.MaxGain, pulse.MaxGain), Lag: 1, Delay: 8, Load: 1},
	} {
		want(t, fmt.Sprintf("CheckSled of %v", s), pulse.CheckSled(s), api.OK)
	}
	for _, b := range badSleds() {
		want(t, fmt.Sprintf("CheckSled of %v", b.x), pulse.CheckSled(b.x), b.e)
	}
}

func TestCheckSetting(t *testing.T) {
	for _, l := range [][]pulse.Step{
		setting(), safer(), steps(0, 0), steps(0, pulse.Full), steps(0, 0, pulse.MaxTicks, pulse.Full), steps(0, 5, 1, 5, 63, 5, 64, 5), longSetting(pulse.MaxSteps),
	} {
		want(t, fmt.Sprintf("CheckSetting of %v", l), pulse.CheckSetting(l), api.OK)
	}
	for _, b := range badSettings() {
		want(t, fmt.Sprintf("CheckSetting of %.99v", b.x), pulse.CheckSetting(b.x), b.e)
	}
}

func TestValves(t *testing.T) {
	for _, x := range []struct {
		l      []pulse.Step
		n      int
		valves []int
	}{
		{setting(), 1, []int{40}}, {setting(), 3, []int{40, 40, 40}}, {setting(), 5, []int{40, 40, 40, 20, 20}}, {steps(0, 7), 2, []int{7, 7}},
		{longSetting(12), 14, []int{0, 1, 2, 3, 4, 5, 6, 7, 8, 9, 10, 11, 11, 11}}, {steps(0, 9, 1, 0, 3, 100), 4, []int{9, 0, 0, 100}},
		{steps(0, 3, 64, 5), 64, slices.Repeat([]int{3}, 64)}, {steps(0, 3, 63, 5), 64, append(slices.Repeat([]int{3}, 63), 5)},
	} {
		valves, e := pulse.Valves(x.l, x.n)
		wantOK(t, fmt.Sprintf("Valves of %v over %d", x.l, x.n), valves, e, x.valves)
	}
	for _, b := range badSettings() {
		for _, n := range []int{4, 0} {
			valves, e := pulse.Valves(b.x, n)
			wantError(t, fmt.Sprintf("Valves of %.99v", b.x), valves, e, b.e)
		}
	}
	for _, n := range outside(1, pulse.MaxTicks) {
		valves, e := pulse.Valves(setting(), n)
		wantError(t, fmt.Sprintf("Valves over %d", n), valves, e, api.ErrRange)
	}
}

func TestRun(t *testing.T) {
	const most = pulse.MaxGain
	falling := steps(0, 100, 1, 0)
	for _, x := range []struct {
		s       pulse.Sled
		l       []pulse.Step
		gain, n int
		run     []int
	}{
		{sled(), setting(), 100, 4, []int{20, 30, 35, 37}}, {sled(), setting(), 200, 4, []int{40, 60, 70, 75}}, {sled(), safer(), 200, 4, []int{30, 45, 52, 56}}, {sled(), safer(), 100, 4, []int{15, 22, 26, 28}}, {sled(), steps(0, 32, 3, 20), 200, 4, []int{32, 48, 56, 60}}, {sled(), steps(0, 34, 3, 20), 200, 4, []int{34, 51, 59, 63}},
		{sled(), setting(), 100, 1, []int{20}}, {sled(), setting(), 100, 6, []int{20, 30, 35, 37, 28, 24}}, {sled(), setting(), 150, 4, []int{30, 45, 52, 56}},
		// Without a lag the run has the wishes, after the delay; a gain is divided and rounded down.
		{gently(100, 1, 0, 1), longSetting(4), 100, 5, []int{0, 1, 2, 3, 3}}, {gently(100, 1, 2, 1), longSetting(4), 100, 7, []int{0, 0, 0, 1, 2, 3, 3}}, {gently(100, 1, 8, 1), steps(0, 5, 1, 9), 100, 10, []int{5, 5, 5, 5, 5, 5, 5, 5, 5, 9}}, {gently(100, 1, 8, 1), steps(0, 5, 1, 9), 100, 3, []int{5, 5, 5}},
		{gently(99, 1, 0, 1), steps(0, 1, 1, 2, 2, 99, 3, 100), 99, 4, []int{0, 1, 98, 99}}, {gently(1, 1, 0, 1), steps(0, 99, 1, 100), 1, 2, []int{0, 1}},
		// What is left of a rising wish is never reached, that of a falling one is: both are rounded down.
		{gently(100, 16, 0, 1), steps(0, 16), 100, 3, []int{1, 1, 1}}, {gently(100, 16, 0, 1), steps(0, 15), 100, 3, []int{0, 0, 0}}, {gently(100, 16, 0, 1), steps(0, 32, 2, 1), 100, 5, []int{2, 3, 2, 1, 1}}, {gently(100, 3, 0, 1), falling, 100, 12, []int{33, 22, 14, 9, 6, 4, 2, 1, 0, 0, 0, 0}},
		{gently(most, 1, 0, 1), falling, most, 3, []int{most, 0, 0}}, {gently(most, 2, 1, 1), falling, most, 4, []int{5000, 7500, 3750, 1875}}, {sled(), steps(0, 0), 200, 3, []int{0, 0, 0}},
	} {
		run, e := pulse.Run(x.s, x.l, x.gain, x.n)
		wantOK(t, fmt.Sprintf("Run of %v with %v by %d over %d", x.s, x.l, x.gain, x.n), run, e, x.run)
	}
}

func TestEnclosedAndSafe(t *testing.T) {
	loaded := func(load int) pulse.Sled {
		s := sled()
		s.Load = load
		return s
	}
	for _, x := range []struct {
		s        pulse.Sled
		l        []pulse.Step
		n        int
		enclosed []api.Interval
		safe     bool
	}{
		{sled(), setting(), 4, intervals(20, 40, 30, 60, 35, 70, 37, 75), false}, {sled(), setting(), 3, intervals(20, 40, 30, 60, 35, 70), false}, {sled(), setting(), 2, intervals(20, 40, 30, 60), true}, {sled(), setting(), 1, intervals(20, 40), true},
		{sled(), safer(), 4, intervals(15, 30, 22, 45, 26, 52, 28, 56), true}, {loaded(56), safer(), 4, intervals(15, 30, 22, 45, 26, 52, 28, 56), true}, {loaded(55), safer(), 4, intervals(15, 30, 22, 45, 26, 52, 28, 56), false}, {loaded(1), safer(), 1, intervals(15, 30), false},
		// It is not the last tick that counts, nor the first one.
		{gently(100, 1, 0, 49), steps(0, 40, 1, 50, 2, 30), 3, intervals(40, 40, 50, 50, 30, 30), false}, {gently(100, 1, 0, 50), steps(0, 40, 1, 50, 2, 30), 3, intervals(40, 40, 50, 50, 30, 30), true}, {gently(100, 1, 0, 1), steps(0, 0), 2, intervals(0, 0, 0, 0), true},
		{pulse.Sled{Gain: to(1, pulse.MaxGain), Lag: 1, Delay: 0, Load: pulse.MaxLoad}, steps(0, 100, 1, 99), 2, intervals(1, 10000, 0, 9900), true},
	} {
		what := fmt.Sprintf(" of %v with %v over %d", x.s, x.l, x.n)
		enclosed, e := pulse.Enclosed(x.s, x.l, x.n)
		wantOK(t, "Enclosed"+what, enclosed, e, x.enclosed)
		safe, e := pulse.Safe(x.s, x.l, x.n)
		wantOK(t, "Safe"+what, safe, e, x.safe)
	}
}

// wantRunErrors checks the error that all functions of runs return.
func wantRunErrors(t *testing.T, what string, s pulse.Sled, l []pulse.Step, gain, n int, wanted api.Errno) {
	t.Helper()
	run, e := pulse.Run(s, l, gain, n)
	wantError(t, "Run of "+what, run, e, wanted)
	enclosed, e := pulse.Enclosed(s, l, n)
	wantError(t, "Enclosed of "+what, enclosed, e, wanted)
	safe, e := pulse.Safe(s, l, n)
	wantError(t, "Safe of "+what, safe, e, wanted)
}

func TestErrorsOfRuns(t *testing.T) {
	for _, b := range badSleds() {
		what := fmt.Sprint(b.x)
		wantRunErrors(t, what, b.x, setting(), 150, 4, b.e)
		wantRunErrors(t, what, b.x, nil, far[0], 0, b.e)
	}
	for _, b := range badSettings() {
		what := fmt.Sprintf("%.99v", b.x)
		wantRunErrors(t, what, sled(), b.x, 150, 4, b.e)
		wantRunErrors(t, what, sled(), b.x, 99, 0, b.e)
	}
	for _, n := range outside(1, pulse.MaxTicks) {
		wantRunErrors(t, fmt.Sprintf("%d ticks", n), sled(), setting(), 150, n, api.ErrRange)
	}
	for _, gain := range outside(100, 200) {
		run, e := pulse.Run(sled(), setting(), gain, 4)
		wantError(t, fmt.Sprintf("Run by %d", gain), run, e, api.ErrRange)
	}
	for _, gain := range []int{100, 200} {
		_, e := pulse.Run(sled(), setting(), gain, 4)
		want(t, fmt.Sprintf("Run by %d", gain), e, api.OK)
	}
}

func TestRunsByTheDefinition(t *testing.T) {
	r := dice(1)
	safe, falling := 0, 0
	for range 3000 {
		n := someTicks(r)
		s, l := someSled(r), someSetting(r, n)
		gain := between(r, s.Gain.Low, s.Gain.High)
		what := fmt.Sprintf(" of %v with %v by %d over %d", s, l, gain, n)
		valves, e := pulse.Valves(l, n)
		wantOK(t, "Valves"+what, valves, e, slowValves(l, n))
		run, e := pulse.Run(s, l, gain, n)
		wantOK(t, "Run"+what, run, e, slowRun(s, l, gain, n))
		enclosed, e := pulse.Enclosed(s, l, n)
		wantOK(t, "Enclosed"+what, enclosed, e, slowEnclosed(s, l, n))
		is, e := pulse.Safe(s, l, n)
		wantOK(t, "Safe"+what, is, e, slowSafe(s, l, n))
		if is {
			safe++
		}
		if !slices.IsSorted(run) {
			falling++
		}
	}
	want(t, "whether many are safe, many are not, and many runs fall", safe > 1000 && safe < 2000 && falling > 500, true)
}
