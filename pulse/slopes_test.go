package pulse_test

import (
	"fmt"
	"testing"

	"crumple/api"
	"crumple/pulse"
)

// P8.4 (slopes and strings): slopes, with ordinary inputs, at their limits, and with their errors in their order; strings_test.go has the strings.

func TestCheckSlope(t *testing.T) {
	for _, s := range append(slopes(60), pulse.Slope{0, 1000, 1000}, pulse.Slope{1000, 0, 1000}, pulse.Slope{600, 800, 1000}, pulse.Slope{352, 936, 1000}, pulse.Slope{0, 999, 999}) {
		want(t, fmt.Sprintf("CheckSlope of %v", s), pulse.CheckSlope(s), api.OK)
	}
	for _, b := range badSlopes() {
		want(t, fmt.Sprintf("CheckSlope of %v", b.x), pulse.CheckSlope(b.x), b.e)
	}
}

func TestSplit(t *testing.T) {
	const most = pulse.MaxPulse
	for _, x := range []struct {
		s             pulse.Slope
		l             []int
		along, across []api.Interval
	}{
		{pulse.Slope{3, 4, 5}, []int{7, -5}, intervals(4, 5, -3, -3), intervals(5, 6, -4, -4)}, {pulse.Slope{4, 3, 5}, []int{7, -7, 1, -1, 0}, intervals(5, 6, -6, -5, 0, 1, -1, 0, 0, 0), intervals(4, 5, -5, -4, 0, 1, -1, 0, 0, 0)},
		{pulse.Slope{1, 0, 1}, []int{7, -7}, intervals(7, 7, -7, -7), intervals(0, 0, 0, 0)}, {pulse.Slope{0, 9, 9}, []int{7}, intervals(0, 0), intervals(7, 7)}, {pulse.Slope{600, 800, 1000}, []int{most, -most, 1}, intervals(60000, 60000, -60000, -60000, 0, 1), intervals(80000, 80000, -80000, -80000, 0, 1)}, {pulse.Slope{5, 12, 13}, []int{most, -most}, intervals(38461, 38462, -38462, -38461), intervals(92307, 92308, -92308, -92307)},
	} {
		along, across, e := pulse.Split(x.s, x.l)
		wantOK(t, fmt.Sprintf("Split of %v by %v", x.l, x.s), parts{along, across}, e, parts{x.along, x.across})
	}
}

func TestErrorsOfSplit(t *testing.T) {
	for _, b := range badSlopes() {
		for _, l := range [][]int{{1, 2}, nil, far} {
			along, across, e := pulse.Split(b.x, l)
			wantError(t, fmt.Sprintf("Split by %v", b.x), parts{along, across}, e, b.e)
		}
	}
	for _, b := range badPulses() {
		along, across, e := pulse.Split(pulse.Slope{3, 4, 5}, b.x)
		wantError(t, fmt.Sprintf("Split of %.99v", b.x), parts{along, across}, e, b.e)
	}
}

func TestSplitByTheDefinition(t *testing.T) {
	r := dice(6)
	all := slopes(100)
	for range 2000 {
		s, l := one(r, all), somePulse(r, someTicks(r))
		along, across, e := pulse.Split(s, l)
		wantOK(t, fmt.Sprintf("Split of %v by %v", l, s), parts{along, across}, e, parts{slowPart(l, s.Along, s.Whole), slowPart(l, s.Across, s.Whole)})
	}
}
