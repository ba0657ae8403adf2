package pulse_test

import (
	"fmt"
	"slices"
	"testing"

	"crumple/api"
	"crumple/pulse"
)

// P8.2 (corridors): corridors and pulses, with ordinary inputs, at their limits, and with their errors in their order; learning_test.go has what is learned.

func TestCheckCorridor(t *testing.T) {
	for _, c := range [][]api.Interval{
		corridor(), intervals(0, 0), intervals(0, pulse.MaxLoad), intervals(pulse.MaxLoad, pulse.MaxLoad), intervals(5, 6, 3, 3, 0, 10), make([]api.Interval, pulse.MaxTicks),
	} {
		want(t, fmt.Sprintf("CheckCorridor of %v", c), pulse.CheckCorridor(c), api.OK)
	}
	for _, b := range badCorridors() {
		want(t, fmt.Sprintf("CheckCorridor of %.99v", b.x), pulse.CheckCorridor(b.x), b.e)
	}
}

func TestInsideAndExcess(t *testing.T) {
	const most = pulse.MaxPulse
	for _, x := range []struct {
		c          []api.Interval
		l          []int
		excess, at int
	}{
		{corridor(), measured(), 5, 0}, {corridor(), []int{20, 40, 30, 20}, 0, 0}, {corridor(), []int{20, 41, 30, 20}, 1, 1}, {corridor(), []int{20, 40, 30, 19}, 1, 3}, {corridor(), []int{25, 25, 50, 9}, 11, 3}, {corridor(), []int{25, 25, 51, 10}, 11, 2},
		// Of several ticks with one excess the first one counts, above or below.
		{corridor(), []int{30, 43, 17, 43}, 3, 1}, {corridor(), []int{30, 17, 43, 17}, 3, 1}, {corridor(), []int{41, 19, 42, 18}, 2, 2},
		{intervals(0, pulse.MaxLoad), []int{-1}, 1, 0}, {intervals(0, pulse.MaxLoad), []int{pulse.MaxLoad}, 0, 0}, {intervals(0, pulse.MaxLoad), []int{pulse.MaxLoad + 1}, 1, 0},
		{intervals(0, 0, pulse.MaxLoad, pulse.MaxLoad), []int{most, -most}, most + pulse.MaxLoad, 1}, {intervals(0, 0, 0, 0), []int{most, -most}, most, 0},
		{make([]api.Interval, 64), make([]int, 64), 0, 0}, {make([]api.Interval, 64), append(make([]int, 63), -7), 7, 63},
	} {
		what := fmt.Sprintf(" of %v in %v", x.l, x.c)
		is, e := pulse.Inside(x.c, x.l)
		wantOK(t, "Inside"+what, is, e, x.excess == 0)
		excess, at, e := pulse.Excess(x.c, x.l)
		wantOK(t, "Excess"+what, [2]int{excess, at}, e, [2]int{x.excess, x.at})
	}
}

func TestErrorsOfPulsesInCorridors(t *testing.T) {
	wantBoth := func(c []api.Interval, l []int, wanted api.Errno) {
		t.Helper()
		what := fmt.Sprintf(" of %.99v in %.99v", l, c)
		is, e := pulse.Inside(c, l)
		wantError(t, "Inside"+what, is, e, wanted)
		excess, at, e := pulse.Excess(c, l)
		wantError(t, "Excess"+what, [2]int{excess, at}, e, wanted)
	}
	for _, b := range badCorridors() {
		wantBoth(b.x, make([]int, len(b.x)), b.e)
		wantBoth(b.x, far, b.e)
		wantBoth(b.x, nil, b.e)
	}
	for _, b := range badPulsesFor() {
		wantBoth(corridor(), b.x, b.e)
	}
}

func TestSpeedsAndWays(t *testing.T) {
	const most = pulse.MaxPulse
	longest := slices.Repeat([]int{-most}, pulse.MaxTicks)
	for _, x := range []struct{ l, speeds, ways []int }{
		{measured(), []int{15, 37, 63, 91}, []int{15, 52, 115, 206}}, {[]int{0}, []int{0}, []int{0}}, {[]int{-7}, []int{-7}, []int{-7}}, {[]int{5, -5, -1, 0, 4}, []int{5, 0, -1, -1, 3}, []int{5, 5, 4, 3, 6}}, {[]int{most, most}, []int{most, 2 * most}, []int{most, 3 * most}},
	} {
		speeds, e := pulse.Speeds(x.l)
		wantOK(t, fmt.Sprintf("Speeds of %v", x.l), speeds, e, x.speeds)
		ways, e := pulse.Ways(x.l)
		wantOK(t, fmt.Sprintf("Ways of %v", x.l), ways, e, x.ways)
	}
	speeds, e := pulse.Speeds(longest)
	wantOK(t, "Speeds of the longest pulse", speeds[63], e, -64*most)
	ways, e := pulse.Ways(longest)
	wantOK(t, "Ways of the longest pulse", ways[63], e, -64*65/2*most)
	for _, b := range badPulses() {
		speeds, e := pulse.Speeds(b.x)
		wantError(t, fmt.Sprintf("Speeds of %.99v", b.x), speeds, e, b.e)
		ways, e := pulse.Ways(b.x)
		wantError(t, fmt.Sprintf("Ways of %.99v", b.x), ways, e, b.e)
	}
}

func TestCorridorsByTheDefinition(t *testing.T) {
	r := dice(2)
	inside := 0
	for range 3000 {
		c, l := someCorridor(r, someTicks(r), one(r, []int{10, 1000, pulse.MaxLoad}))
		if r.IntN(2) == 0 {
			// All are near the corridor.
			for i, x := range c {
				l[i] = min(max(l[i], x.Low-one(r, []int{0, 0, 0, 2})), x.High+one(r, []int{0, 0, 0, 2}))
			}
		}
		what := fmt.Sprintf(" of %v in %v", l, c)
		wanted, tick := slowExcess(c, l)
		excess, at, e := pulse.Excess(c, l)
		wantOK(t, "Excess"+what, [2]int{excess, at}, e, [2]int{wanted, tick})
		is, e := pulse.Inside(c, l)
		wantOK(t, "Inside"+what, is, e, wanted == 0)
		if is {
			inside++
		}
		speeds, e := pulse.Speeds(l)
		wantOK(t, fmt.Sprintf("Speeds of %v", l), speeds, e, slowSpeeds(l))
		ways, e := pulse.Ways(l)
		wantOK(t, fmt.Sprintf("Ways of %v", l), ways, e, slowSpeeds(slowSpeeds(l)))
	}
	want(t, "whether many are inside, and many are not", inside > 500 && inside < 2500, true)
}
