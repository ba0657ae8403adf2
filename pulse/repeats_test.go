package pulse_test

import (
	"fmt"
	"slices"
	"testing"

	"crumple/api"
	"crumple/pulse"
)

// P8.3 (packs and runs): repeated runs, with ordinary inputs, at their limits, and with their errors in their order.

func TestRepeatedRuns(t *testing.T) {
	const most = pulse.MaxPulse
	for _, x := range []struct {
		l      [][]int
		spread []api.Interval
		mean   []int
		widest int
	}{
		{[][]int{{1, 5}, {3, 4}}, intervals(1, 3, 4, 5), []int{2, 5}, 2}, {[][]int{{3, 4}, {1, 5}}, intervals(1, 3, 4, 5), []int{2, 5}, 2}, {[][]int{{7, -7}}, intervals(7, 7, -7, -7), []int{7, -7}, 0}, {[][]int{{7}, {7}, {7}}, intervals(7, 7), []int{7}, 0},
		// From the middle to the greater one, also below 0.
		{[][]int{{-1, -4, 0, -3}, {0, -5, 1, -4}}, intervals(-1, 0, -5, -4, 0, 1, -4, -3), []int{0, -4, 1, -3}, 1}, {[][]int{{0, 0, 0, 0}, {0, 0, 0, 0}, {1, 2, -1, -2}}, intervals(0, 1, 0, 2, -1, 0, -2, 0), []int{0, 1, 0, -1}, 2}, {[][]int{{0, 0}, {0, 0}, {0, 0}, {2, -2}}, intervals(0, 2, -2, 0), []int{1, 0}, 2}, {[][]int{{5}, {1}, {9}, {2}}, intervals(1, 9), []int{4}, 8},
		{[][]int{{most}, {0}}, intervals(0, most), []int{most / 2}, most}, {slices.Repeat([][]int{{most}}, pulse.MaxRuns), intervals(most, most), []int{most}, 0}, {slices.Repeat([][]int{make([]int, pulse.MaxTicks)}, pulse.MaxRuns), make([]api.Interval, pulse.MaxTicks), make([]int, pulse.MaxTicks), 0}, {[][]int{{0, 3, 0}, {0, 0, 1}, {0, 1, 5}}, intervals(0, 0, 0, 3, 0, 5), []int{0, 1, 2}, 5},
	} {
		what := fmt.Sprintf(" of %v", x.l)
		spread, e := pulse.Spread(x.l)
		wantOK(t, "Spread"+what, spread, e, x.spread)
		mean, e := pulse.Mean(x.l)
		wantOK(t, "Mean"+what, mean, e, x.mean)
		for _, tolerance := range []int{0, x.widest - 1, x.widest, x.widest + 1, most} {
			if tolerance < 0 || tolerance > most {
				continue
			}
			alike, e := pulse.Alike(x.l, tolerance)
			wantOK(t, fmt.Sprintf("Alike within %d", tolerance)+what, alike, e, tolerance >= x.widest)
		}
	}
	alike, e := pulse.Alike([][]int{{most}, {-1}}, most)
	wantOK(t, "Alike of runs that are wider than any tolerance", alike, e, false)
}

func TestErrorsOfRepeatedRuns(t *testing.T) {
	for _, b := range badRuns() {
		what := fmt.Sprintf(" of %.99v", b.x)
		spread, e := pulse.Spread(b.x)
		wantError(t, "Spread"+what, spread, e, b.e)
		mean, e := pulse.Mean(b.x)
		wantError(t, "Mean"+what, mean, e, b.e)
		for _, tolerance := range []int{0, -1} {
			alike, e := pulse.Alike(b.x, tolerance)
			wantError(t, "Alike"+what, alike, e, b.e)
		}
	}
	for _, tolerance := range outside(0, pulse.MaxPulse) {
		alike, e := pulse.Alike([][]int{{1, 5}, {3, 4}}, tolerance)
		wantError(t, fmt.Sprintf("Alike within %d", tolerance), alike, e, api.ErrRange)
	}
}

func TestRepeatedRunsByTheDefinition(t *testing.T) {
	r := dice(5)
	for range 2000 {
		l := someRuns(r)
		what := fmt.Sprintf(" of %v", l)
		spread, e := pulse.Spread(l)
		wantOK(t, "Spread"+what, spread, e, slowSpread(l))
		mean, e := pulse.Mean(l)
		wantOK(t, "Mean"+what, mean, e, slowMean(l))
		widest := 0
		for _, x := range slowSpread(l) {
			widest = max(widest, x.High-x.Low)
		}
		for _, tolerance := range []int{widest - 1, widest, between(r, 0, pulse.MaxPulse)} {
			if tolerance >= 0 && tolerance <= pulse.MaxPulse {
				alike, e := pulse.Alike(l, tolerance)
				wantOK(t, fmt.Sprintf("Alike within %d", tolerance)+what, alike, e, tolerance >= widest)
			}
		}
	}
}
