package pulse_test

import (
	"fmt"
	"math"
	"math/rand/v2"
	"slices"
	"strings"
	"testing"

	"crumple/api"
	"crumple/pulse"
)

// longest is a name that could not be longer.
var longest = strings.Repeat("x", api.MaxName)

// badNames are none.
var badNames = []string{"", "9a", "_a", "a b", "a-b", "-", "h\u00e9ad", "a\n", "\xff", longest + "x"}

// far are numbers that are out of all ranges.
var far = []int{math.MinInt, math.MinInt + 1, -2000000000, 2000000000, math.MaxInt}

// printed returns a result as text: nil and empty lists are alike.
func printed(x any) string { return fmt.Sprintf("%+v", x) }

// want compares two results as they are printed.
func want[T any](t *testing.T, what string, got, wanted T) {
	t.Helper()
	if a, b := printed(got), printed(wanted); a != b {
		t.Errorf("%.999s: got %s, want %s", what, a, b)
	}
}

// wantError checks an error, and that a result beside one is its zero value.
func wantError[T any](t *testing.T, what string, got T, e, wanted api.Errno) {
	t.Helper()
	want(t, what+", the error", e, wanted)
	if wanted != api.OK {
		want(t, what+", beside the error", got, *new(T))
	}
}

// wantOK checks a result without an error.
func wantOK[T any](t *testing.T, what string, got T, e api.Errno, wanted T) {
	t.Helper()
	want(t, what+", the error", e, api.OK)
	want(t, what, got, wanted)
}

// dice are the same on each run.
func dice(seed uint64) *rand.Rand { return rand.New(rand.NewPCG(seed, 8)) }

// between returns a number from low to high.
func between(r *rand.Rand, low, high int) int { return low + r.IntN(high-low+1) }

// one returns an element of a list.
func one[A any](r *rand.Rand, l []A) A { return l[r.IntN(len(l))] }

// pair is two results of one call.
type pair[A, B any] struct {
	first  A
	second B
}

// priced is a set with its cost, as Cheapest returns both.
type priced = pair[[]int, int]

// parts is both lists that Split returns.
type parts = pair[[]api.Interval, []api.Interval]

// wrong is an argument with its first error; most have later errors, too.
type wrong[T any] struct {
	x T
	e api.Errno
}

func to(low, high int) api.Interval { return api.Interval{Low: low, High: high} }

// intervals returns intervals by their ends.
func intervals(numbers ...int) []api.Interval {
	var l []api.Interval
	for p := range slices.Chunk(numbers, 2) {
		l = append(l, to(p[0], p[1]))
	}
	return l
}

// steps returns a setting by the ticks and the valves of its steps.
func steps(numbers ...int) []pulse.Step {
	var l []pulse.Step
	for p := range slices.Chunk(numbers, 2) {
		l = append(l, pulse.Step{From: p[0], Valve: p[1]})
	}
	return l
}

// gently returns a sled with a lag, a delay and a load, and one gain alone.
func gently(gain, lag, delay, load int) pulse.Sled {
	return pulse.Sled{Gain: to(gain, gain), Lag: lag, Delay: delay, Load: load}
}

// sled returns the sled S of the chapter's examples.
func sled() pulse.Sled { return pulse.Sled{Gain: to(100, 200), Lag: 2, Delay: 1, Load: 60} }

// setting returns the setting L of the chapter's examples; the sled S is not safe with it over 3 ticks or more.
func setting() []pulse.Step { return steps(0, 40, 3, 20) }

// safer returns the setting of the chapter's example 2; the sled S is safe with it over 4 ticks.
func safer() []pulse.Step { return steps(0, 30, 3, 20) }

// corridor returns the corridor C of the chapter's examples.
func corridor() []api.Interval { return slices.Repeat(intervals(20, 40), 4) }

// measured returns the pulse of the chapter's example 3.
func measured() []int { return []int{15, 22, 26, 28} }

// packs returns the packs of the chapter's example 5; their impulses are 40, 60 and 30.
func packs() []pulse.Pack {
	return []pulse.Pack{{Name: "p", Force: 10, Time: 4, Cost: 5}, {Name: "q", Force: 20, Time: 3, Cost: 9}, {Name: "r", Force: 30, Time: 1, Cost: 2}}
}

// many returns packs with different names, the impulses 1, 2, 4, .., and one cost.
func many(n int) []pulse.Pack {
	var l []pulse.Pack
	for i := range n {
		l = append(l, pulse.Pack{Name: fmt.Sprintf("p%d", i), Force: 1 << i, Time: 1, Cost: 7})
	}
	return l
}

// outside has numbers that are not from low to high.
func outside(low, high int) []int { return append([]int{low - 1, high + 1}, far...) }

// badIntervals has intervals in the order of their errors.
func badIntervals(low, high int) []wrong[api.Interval] {
	l := []wrong[api.Interval]{{to(high, low), api.ErrOrder}, {to(low+1, low), api.ErrOrder}, {to(high, high-1), api.ErrOrder}}
	for _, n := range outside(low, high) {
		l = append(l, wrong[api.Interval]{to(n, high), api.ErrRange}, wrong[api.Interval]{to(n, low), api.ErrRange}, wrong[api.Interval]{to(low, n), api.ErrRange}, wrong[api.Interval]{to(high, n), api.ErrRange}, wrong[api.Interval]{to(n, n), api.ErrRange})
	}
	return l
}

// badSleds has sleds in the order of their errors: each has those of a later part, too, and then these alone.
func badSleds() []wrong[pulse.Sled] {
	var l []wrong[pulse.Sled]
	add := func(e api.Errno, change func(s *pulse.Sled)) {
		s := sled()
		change(&s)
		l = append(l, wrong[pulse.Sled]{s, e})
	}
	for _, b := range badIntervals(1, pulse.MaxGain) {
		add(b.e, func(s *pulse.Sled) { *s = pulse.Sled{Gain: b.x, Lag: 0, Delay: -1, Load: 0} })
		add(b.e, func(s *pulse.Sled) { s.Gain = b.x })
	}
	for _, n := range outside(1, pulse.MaxLag) {
		add(api.ErrRange, func(s *pulse.Sled) { s.Lag, s.Delay, s.Load = n, -1, 0 })
		add(api.ErrRange, func(s *pulse.Sled) { s.Lag = n })
	}
	for _, n := range outside(0, pulse.MaxDelay) {
		add(api.ErrRange, func(s *pulse.Sled) { s.Delay, s.Load = n, 0 })
		add(api.ErrRange, func(s *pulse.Sled) { s.Delay = n })
	}
	for _, n := range outside(1, pulse.MaxLoad) {
		add(api.ErrRange, func(s *pulse.Sled) { s.Load = n })
	}
	return l
}

// longSetting returns a setting with some steps, one a tick.
func longSetting(n int) []pulse.Step {
	var l []pulse.Step
	for i := range n {
		l = append(l, pulse.Step{From: i, Valve: i})
	}
	return l
}

// badSettings has settings in the order of their errors.
func badSettings() []wrong[[]pulse.Step] {
	l := []wrong[[]pulse.Step]{
		{nil, api.ErrEmpty}, {[]pulse.Step{}, api.ErrEmpty}, {longSetting(pulse.MaxSteps + 1), api.ErrMany}, {make([]pulse.Step, pulse.MaxSteps+1), api.ErrMany}, {slices.Repeat(steps(far[0], far[0]), pulse.MaxSteps+1), api.ErrMany}, {make([]pulse.Step, 5000), api.ErrMany},
		{steps(1, 0), api.ErrOrder}, {steps(1, 0, far[0], 0), api.ErrOrder}, {steps(pulse.MaxTicks, 0, 0, 0), api.ErrOrder}, {steps(1, -1), api.ErrRange}, {steps(1, 0, 2, 0), api.ErrOrder},
		{steps(0, 5, 0, 6), api.ErrOrder}, {steps(0, 5, 0, 101), api.ErrRange}, {steps(0, 5, 2, 5, 2, 6), api.ErrOrder}, {steps(0, 5, 2, 5, 1, 6, far[0], 0), api.ErrOrder}, {steps(0, 5, 0, 5, 0, far[4]), api.ErrOrder}, {steps(0, 0, pulse.MaxTicks, 0, pulse.MaxTicks, 0), api.ErrOrder}, {steps(0, 0, 3, 0, 0, 0), api.ErrOrder},
		{append(longSetting(pulse.MaxSteps-1), pulse.Step{From: pulse.MaxSteps - 2}), api.ErrOrder},
	}
	for _, n := range outside(0, pulse.MaxTicks) {
		l = append(l, wrong[[]pulse.Step]{steps(n, 0), api.ErrRange}, wrong[[]pulse.Step]{steps(n, far[0], 0, 0), api.ErrRange}, wrong[[]pulse.Step]{steps(0, 0, n, 0), api.ErrRange}, wrong[[]pulse.Step]{steps(0, 0, n, 0, 0, 0), api.ErrRange}, wrong[[]pulse.Step]{append(longSetting(pulse.MaxSteps-1), pulse.Step{From: n}), api.ErrRange})
	}
	for _, n := range outside(0, pulse.Full) {
		l = append(l, wrong[[]pulse.Step]{steps(0, n), api.ErrRange}, wrong[[]pulse.Step]{steps(1, n, 0, 0), api.ErrRange}, wrong[[]pulse.Step]{steps(0, 0, 1, n), api.ErrRange}, wrong[[]pulse.Step]{steps(0, 0, 0, n), api.ErrRange}, wrong[[]pulse.Step]{steps(0, 0, 3, 0, 2, n, 1, 0), api.ErrRange})
	}
	return l
}

// badCorridors has corridors in the order of their errors.
func badCorridors() []wrong[[]api.Interval] {
	full := slices.Repeat(intervals(20, 40), pulse.MaxTicks)
	l := []wrong[[]api.Interval]{
		{nil, api.ErrEmpty}, {[]api.Interval{}, api.ErrEmpty}, {append(full, to(20, 40)), api.ErrMany}, {slices.Repeat(intervals(far[0], far[0]), pulse.MaxTicks+1), api.ErrMany}, {make([]api.Interval, 5000), api.ErrMany},
	}
	for _, b := range badIntervals(0, pulse.MaxLoad) {
		other := to(1, 0)
		if b.e == api.ErrOrder {
			other = to(far[0], 0)
		}
		l = append(l, wrong[[]api.Interval]{[]api.Interval{b.x}, b.e}, wrong[[]api.Interval]{[]api.Interval{to(0, 0), b.x, other}, b.e}, wrong[[]api.Interval]{append(slices.Clone(full[1:]), b.x), b.e})
	}
	return l
}

// badPulsesFor has pulses for the corridor C in the order of their errors.
func badPulsesFor() []wrong[[]int] {
	l := []wrong[[]int]{{nil, api.ErrShape}, {[]int{1, 2, 3}, api.ErrShape}, {[]int{1, 2, 3, 4, 5}, api.ErrShape}, {far, api.ErrShape}, {make([]int, pulse.MaxTicks+1), api.ErrShape}, {make([]int, 5000), api.ErrShape}}
	for _, n := range outside(-pulse.MaxPulse, pulse.MaxPulse) {
		l = append(l, wrong[[]int]{[]int{n, 0, 0, 0}, api.ErrRange}, wrong[[]int]{[]int{0, 0, n, 0}, api.ErrRange}, wrong[[]int]{[]int{0, 0, 0, n}, api.ErrRange}, wrong[[]int]{[]int{n, 0, 0}, api.ErrShape})
	}
	return l
}

// badPulses has pulses alone in the order of their errors.
func badPulses() []wrong[[]int] {
	l := []wrong[[]int]{{nil, api.ErrEmpty}, {[]int{}, api.ErrEmpty}, {make([]int, pulse.MaxTicks+1), api.ErrMany}, {slices.Repeat(far, 13), api.ErrMany}, {make([]int, 5000), api.ErrMany}}
	for _, n := range outside(-pulse.MaxPulse, pulse.MaxPulse) {
		l = append(l, wrong[[]int]{[]int{n}, api.ErrRange}, wrong[[]int]{[]int{0, n, 0, 0, 0}, api.ErrRange}, wrong[[]int]{append(make([]int, pulse.MaxTicks-1), n), api.ErrRange})
	}
	return l
}

// badPacks has packs in the order of their errors.
func badPacks() []wrong[[]pulse.Pack] {
	l := []wrong[[]pulse.Pack]{
		{many(pulse.MaxPacks + 1), api.ErrMany}, {make([]pulse.Pack, pulse.MaxPacks+1), api.ErrMany}, {slices.Repeat(packs(), 2000), api.ErrMany},
		{slices.Repeat(packs(), 2), api.ErrTwice}, {append(many(7), pulse.Pack{Name: "p0"}), api.ErrTwice}, {append(many(7), pulse.Pack{Name: "p6", Force: -1}), api.ErrTwice}, {[]pulse.Pack{{Name: "a", Time: 1}, {Name: "a"}, {}}, api.ErrTwice}, {[]pulse.Pack{{Name: "a"}, {Name: "a"}}, api.ErrRange},
	}
	add := func(e api.Errno, p pulse.Pack) {
		l = append(l, wrong[[]pulse.Pack]{[]pulse.Pack{p}, e}, wrong[[]pulse.Pack]{append(packs(), p, pulse.Pack{}), e}, wrong[[]pulse.Pack]{append([]pulse.Pack{p}, slices.Repeat(packs(), 2)...), e}, wrong[[]pulse.Pack]{append(many(pulse.MaxPacks-1), p), e})
	}
	for _, name := range badNames {
		add(api.ErrName, pulse.Pack{Name: name, Force: -1})
		add(api.ErrName, pulse.Pack{Name: name, Time: 1})
	}
	for _, n := range outside(0, pulse.MaxForce) {
		add(api.ErrRange, pulse.Pack{Name: "a", Force: n, Time: 1})
		add(api.ErrRange, pulse.Pack{Name: "a", Force: n, Time: 0, Cost: -1})
	}
	for _, n := range outside(1, pulse.MaxTicks) {
		add(api.ErrRange, pulse.Pack{Name: "a", Time: n})
		add(api.ErrRange, pulse.Pack{Name: "a", Time: n, Cost: -1})
	}
	for _, n := range outside(0, pulse.MaxCost) {
		add(api.ErrRange, pulse.Pack{Name: "a", Time: 1, Cost: n})
	}
	return l
}

// badSets has sets of three packs in the order of their errors.
func badSets() []wrong[[]int] {
	l := []wrong[[]int]{{[]int{0, 0}, api.ErrOrder}, {[]int{1, 0}, api.ErrOrder}, {[]int{0, 2, 1}, api.ErrOrder}, {[]int{0, 1, 2, 2}, api.ErrOrder}, {[]int{2, 2}, api.ErrOrder}, {make([]int, 5000), api.ErrOrder}}
	for _, n := range outside(0, 2) {
		l = append(l, wrong[[]int]{[]int{n}, api.ErrUnknown}, wrong[[]int]{[]int{0, 1, n}, api.ErrUnknown}, wrong[[]int]{[]int{1, 0, n}, api.ErrUnknown}, wrong[[]int]{[]int{n, n}, api.ErrUnknown})
	}
	return l
}

// badRuns has runs in the order of their errors.
func badRuns() []wrong[[][]int] {
	run := []int{3, 5, 4}
	l := []wrong[[][]int]{
		{nil, api.ErrEmpty}, {[][]int{}, api.ErrEmpty}, {slices.Repeat([][]int{run}, pulse.MaxRuns+1), api.ErrMany}, {make([][]int, pulse.MaxRuns+1), api.ErrMany}, {make([][]int, 5000), api.ErrMany},
		{[][]int{run, {1, 2}, nil}, api.ErrShape}, {[][]int{run, {1, 2, 3, 4}, {far[0]}}, api.ErrShape}, {[][]int{{1}, run}, api.ErrShape}, {append(slices.Repeat([][]int{run}, pulse.MaxRuns-1), []int{1}), api.ErrShape}, {[][]int{run, run, {1, 2}, run[:2]}, api.ErrShape},
	}
	for _, b := range badPulses() {
		l = append(l, wrong[[][]int]{[][]int{b.x}, b.e}, wrong[[][]int]{[][]int{run, b.x, {1}}, b.e}, wrong[[][]int]{[][]int{b.x, run, nil}, b.e}, wrong[[][]int]{append(slices.Repeat([][]int{run}, pulse.MaxRuns-1), b.x), b.e})
	}
	return l
}

// badSlopes has slopes in the order of their errors.
func badSlopes() []wrong[pulse.Slope] {
	l := []wrong[pulse.Slope]{
		{pulse.Slope{3, 4, 6}, api.ErrForm}, {pulse.Slope{3, 5, 5}, api.ErrForm}, {pulse.Slope{2, 4, 5}, api.ErrForm}, {pulse.Slope{0, 0, 1}, api.ErrForm}, {pulse.Slope{1, 1, 1}, api.ErrForm}, {pulse.Slope{1000, 1000, 1000}, api.ErrForm}, {pulse.Slope{5, 4, 3}, api.ErrForm}, {pulse.Slope{0, 5, 4}, api.ErrForm}, {pulse.Slope{5, 0, 4}, api.ErrForm},
		// The squares fit, or they would by the wraparound of integers.
		{pulse.Slope{-3, 4, 5}, api.ErrRange}, {pulse.Slope{3, -4, 5}, api.ErrRange}, {pulse.Slope{3, 4, -5}, api.ErrRange}, {pulse.Slope{0, 0, 0}, api.ErrRange}, {pulse.Slope{3000, 4000, 5000}, api.ErrRange}, {pulse.Slope{1 << 32, 0, 1}, api.ErrRange}, {pulse.Slope{1 << 32, 1 << 32, 1 << 32}, api.ErrRange},
	}
	for _, n := range outside(0, pulse.MaxSlope) {
		l = append(l, wrong[pulse.Slope]{pulse.Slope{n, 4, 5}, api.ErrRange}, wrong[pulse.Slope]{pulse.Slope{n, -1, 0}, api.ErrRange}, wrong[pulse.Slope]{pulse.Slope{3, n, 5}, api.ErrRange}, wrong[pulse.Slope]{pulse.Slope{3, n, 0}, api.ErrRange})
	}
	for _, n := range outside(1, pulse.MaxSlope) {
		l = append(l, wrong[pulse.Slope]{pulse.Slope{3, 4, n}, api.ErrRange}, wrong[pulse.Slope]{pulse.Slope{0, 0, n}, api.ErrRange})
	}
	return l
}

// someSled returns a sled whose loads are often met.
func someSled(r *rand.Rand) pulse.Sled {
	low := between(r, 1, one(r, []int{5, 300, pulse.MaxGain}))
	high := min(pulse.MaxGain, low+between(r, 0, one(r, []int{0, 20, 300, pulse.MaxGain})))
	return pulse.Sled{Gain: to(low, high), Lag: between(r, 1, one(r, []int{1, 4, pulse.MaxLag})), Delay: between(r, 0, one(r, []int{0, 2, pulse.MaxDelay})), Load: between(r, max(1, high/4), high)}
}

// someSetting returns a setting whose steps often begin before some ticks.
func someSetting(r *rand.Rand, n int) []pulse.Step {
	var ticks []int
	for range between(r, 0, pulse.MaxSteps-1) {
		ticks = append(ticks, between(r, 1, min(pulse.MaxTicks, n+2)))
	}
	slices.Sort(ticks)
	l := steps(0, between(r, 0, pulse.Full))
	for _, tick := range slices.Compact(ticks) {
		l = append(l, pulse.Step{From: tick, Valve: one(r, []int{0, pulse.Full, between(r, 0, pulse.Full), between(r, 0, pulse.Full)})})
	}
	return l
}

// someTicks returns a number of ticks.
func someTicks(r *rand.Rand) int { return between(r, 1, one(r, []int{4, 15, pulse.MaxTicks})) }

// someCorridor returns a corridor with some ticks, and a pulse around it.
func someCorridor(r *rand.Rand, n, most int) ([]api.Interval, []int) {
	var c []api.Interval
	var l []int
	width := one(r, []int{0, 5, most})
	for range n {
		low := between(r, 0, most)
		high := min(pulse.MaxLoad, low+between(r, 0, width))
		c = append(c, to(low, high))
		l = append(l, between(r, low, high)+one(r, []int{0, 0, 0, -1, 1, between(r, -most, most)}))
	}
	return c, l
}

// somePulse returns a pulse with some ticks.
func somePulse(r *rand.Rand, n int) []int {
	most := one(r, []int{3, 100, pulse.MaxPulse})
	var l []int
	for range n {
		l = append(l, between(r, -most, most))
	}
	return l
}

// somePacks returns packs of which several sets often have one impulse, or one cost.
func somePacks(r *rand.Rand) []pulse.Pack {
	most := one(r, []int{2, 6, 50})
	var l []pulse.Pack
	for i := range between(r, 0, pulse.MaxPacks) {
		l = append(l, pulse.Pack{Name: fmt.Sprintf("p%d", i), Force: between(r, 0, most), Time: between(r, 1, 3), Cost: between(r, 0, most)})
	}
	if r.IntN(20) == 0 {
		for i := range l {
			l[i].Force, l[i].Time, l[i].Cost = between(r, 0, pulse.MaxForce), between(r, 1, pulse.MaxTicks), between(r, 0, pulse.MaxCost)
		}
	}
	return l
}

// someTarget returns a target that some packs often meet.
func someTarget(r *rand.Rand, l []pulse.Pack) api.Interval {
	sum := 0
	for _, p := range l {
		sum += p.Force * p.Time
	}
	low := between(r, 0, sum+1)
	return to(low, min(pulse.MaxImpulse, low+between(r, 0, one(r, []int{0, 3, sum/4 + 1}))))
}

// someRuns returns runs.
func someRuns(r *rand.Rand) [][]int {
	n := someTicks(r)
	var l [][]int
	for range between(r, 1, pulse.MaxRuns) {
		l = append(l, somePulse(r, n))
	}
	return l
}

// slopes returns all slopes up to a Whole.
func slopes(most int) []pulse.Slope {
	var l []pulse.Slope
	for along := range most + 1 {
		for across := range most + 1 {
			for whole := 1; whole <= most; whole++ {
				if along*along+across*across == whole*whole {
					l = append(l, pulse.Slope{Along: along, Across: across, Whole: whole})
				}
			}
		}
	}
	return l
}
