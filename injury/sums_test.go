package injury_test

import (
	"fmt"
	"math/big"
	"slices"
	"testing"

	"crumple/api"
	"crumple/injury"
)

// P6.2 (sums and products): sums by limits, moments and products with ordinary inputs, at their limits, and with their errors in their order.

func TestCombined(t *testing.T) {
	full := slices.Repeat([]int{-api.MaxUnit}, injury.MaxSeries)
	for _, x := range []struct {
		a, b   []int
		limits [2]int
		sum    api.Ratio
		at     int
	}{
		{[]int{3, -4}, []int{10, 5}, [2]int{2, 10}, ratio(5, 2), 0}, {[]int{3, -4}, []int{10, 6}, [2]int{2, 10}, ratio(13, 5), 1}, {[]int{3, -4}, []int{-11, 5}, [2]int{2, 10}, ratio(13, 5), 0}, {[]int{3, -4}, []int{10, 5}, [2]int{10, 2}, ratio(53, 10), 0},
		{[]int{0}, []int{0}, [2]int{7, 9}, ratio(0, 1), 0}, {[]int{-1}, []int{-1}, [2]int{1, 1}, ratio(2, 1), 0}, {[]int{1, 0, -1}, []int{0, 1, 0}, [2]int{3, 3}, ratio(1, 3), 0}, {[]int{0, 0, 3}, []int{1, 2, 0}, [2]int{4, 5}, ratio(3, 4), 2},
		// Each limit is that of its own series.
		{[]int{12, 0}, []int{0, 12}, [2]int{3, 4}, ratio(4, 1), 0}, {[]int{12, 0}, []int{0, 12}, [2]int{4, 3}, ratio(4, 1), 1}, {[]int{1}, []int{1}, [2]int{6, 10}, ratio(4, 15), 0}, {[]int{1}, []int{1}, [2]int{6, 3}, ratio(1, 2), 0},
		{[]int{1}, []int{1}, [2]int{1000, 999}, ratio(1999, 999000), 0}, {[]int{1}, []int{0}, [2]int{1000, 1000}, ratio(1, 1000), 0}, {full, full, [2]int{1, 1}, ratio(2*api.MaxUnit, 1), 0}, {append([]int{0}, full[1:]...), full, [2]int{1000, 1}, ratio(2050048, 125), 1}, {[]int{api.MaxUnit - 1}, []int{api.MaxUnit - 1}, [2]int{1000, 999}, ratio(16383*1999, 999000), 0},
	} {
		sum, at, e := injury.Combined(x.a, x.b, x.limits)
		x.sum = lowest(rational(x.sum))
		wantOK(t, fmt.Sprintf("Combined of %v and %v by %v", x.a, x.b, x.limits), pair[api.Ratio, int]{sum, at}, e, pair[api.Ratio, int]{x.sum, x.at})
	}
}

func TestMoments(t *testing.T) {
	for _, x := range []struct {
		moment, force []int
		shift         int
		moments       []int
	}{
		{[]int{7, 5}, []int{1, 2}, 3, []int{4, -1}}, {[]int{7, 5}, []int{1, 2}, -3, []int{10, 11}}, {[]int{7, 5}, []int{1, 2}, 0, []int{7, 5}}, {[]int{7, 5}, []int{-1, 0}, 3, []int{10, 5}}, {[]int{0}, []int{1}, 1, []int{-1}},
		// The moments about a joint may be greater than those of a series.
		{[]int{api.MaxUnit}, []int{-api.MaxUnit}, injury.MaxShift, []int{1001 * api.MaxUnit}}, {[]int{-api.MaxUnit}, []int{-api.MaxUnit}, -injury.MaxShift, []int{-1001 * api.MaxUnit}}, {make([]int, injury.MaxSeries), make([]int, injury.MaxSeries), 9, make([]int, injury.MaxSeries)},
	} {
		moments, e := injury.Moments(x.moment, x.force, x.shift)
		wantOK(t, fmt.Sprintf("Moments of %v and %v with %d", x.moment, x.force, x.shift), moments, e, x.moments)
	}
}

func TestViscous(t *testing.T) {
	swing := slices.Repeat([]int{0, -api.MaxUnit, -api.MaxUnit, api.MaxUnit}, 32)
	for _, x := range []struct {
		l           []int
		product, at int
	}{
		{[]int{1, 3, 6, 4}, 15, 1}, {[]int{4, 6, 3, 1}, -6, 1}, {[]int{4, 6, 3, 6}, 0, 2}, {[]int{1, 2, 3, 4}, 6, 2}, {[]int{0, 0, 0}, 0, 1}, {[]int{0, 5, 0, 5, 0}, 0, 1}, {[]int{0, 1, 1}, 1, 1}, {[]int{5, 1, 1}, -4, 1}, {[]int{5, -1, 1}, 4, 1}, {[]int{1, -1, 5}, -4, 1},
		// Both ends count in the differences alone.
		{[]int{9, 1, 10, 2, 99}, 178, 3}, {[]int{-9, 1, 0, 1, 9}, 9, 1}, {[]int{1, 2, 1, 2, 1, 0, 1}, 0, 1}, {[]int{0, 1, 2, 1, 0, -1, -2, -1, 0}, 2, 1}, {[]int{9, 0, 1, 2, 3, 2}, 4, 3},
		{[]int{-api.MaxUnit, api.MaxUnit, api.MaxUnit}, 2 * api.MaxUnit * api.MaxUnit, 1}, {[]int{api.MaxUnit, api.MaxUnit, -api.MaxUnit}, -2 * api.MaxUnit * api.MaxUnit, 1}, {swing, api.MaxUnit * api.MaxUnit, 1}, {append(make([]int, 125), 1, 2, 3), 4, 126}, {append(make([]int, 126), 1, 2), 2, 126},
	} {
		product, at, e := injury.Viscous(x.l)
		wantOK(t, fmt.Sprintf("Viscous of %v", x.l), pair[int, int]{product, at}, e, pair[int, int]{x.product, x.at})
	}
}

func TestSumErrors(t *testing.T) {
	wantBoth := func(a, b []int, wanted api.Errno) {
		t.Helper()
		what := fmt.Sprintf(" of %v and %v", a, b)
		for _, limits := range [][2]int{{1, 1}, {0, 0}} {
			sum, at, e := injury.Combined(a, b, limits)
			wantError(t, "Combined"+what, pair[api.Ratio, int]{sum, at}, e, wanted)
		}
		for _, shift := range []int{1, far[0]} {
			moments, e := injury.Moments(a, b, shift)
			wantError(t, "Moments"+what, moments, e, wanted)
		}
	}
	for _, b := range badSeries() {
		for _, other := range append(badSeries(), wrong[[]int]{x: []int{1, 2, 3}}, wrong[[]int]{x: []int{1}}) {
			wantBoth(b.x, other.x, b.e)
		}
		wantBoth([]int{1, 2, 3}, b.x, b.e)
		wantBoth([]int{1}, b.x, b.e)
		product, at, e := injury.Viscous(b.x)
		wantError(t, fmt.Sprintf("Viscous of %v", b.x), pair[int, int]{product, at}, e, b.e)
	}
	wantBoth([]int{1}, []int{1, 2}, api.ErrShape)
	wantBoth([]int{1, 2}, []int{1}, api.ErrShape)
	wantBoth(make([]int, 128), make([]int, 127), api.ErrShape)
	for _, limits := range badLimits() {
		sum, at, e := injury.Combined([]int{1}, []int{2}, limits)
		wantError(t, fmt.Sprintf("Combined by %v", limits), pair[api.Ratio, int]{sum, at}, e, api.ErrRange)
	}
	for _, shift := range outside(-injury.MaxShift, injury.MaxShift) {
		moments, e := injury.Moments([]int{1}, []int{2}, shift)
		wantError(t, fmt.Sprintf("Moments with %d", shift), moments, e, api.ErrRange)
	}
	for _, l := range [][]int{{1}, {1, 2}} {
		product, at, e := injury.Viscous(l)
		wantError(t, fmt.Sprintf("Viscous of %v", l), pair[int, int]{product, at}, e, api.ErrShort)
	}
}

// slowCombined returns the greatest sum by limits, by its definition, and its index.
func slowCombined(a, b []int, limits [2]int) (*big.Rat, int) {
	best, at := big.NewRat(-1, 1), 0
	for i := range a {
		x := new(big.Rat).Abs(big.NewRat(int64(a[i]), int64(limits[0])))
		y := new(big.Rat).Abs(big.NewRat(int64(b[i]), int64(limits[1])))
		if x.Add(x, y).Cmp(best) > 0 {
			best, at = x, i
		}
	}
	return best, at
}

func TestSumsByTheirDefinitions(t *testing.T) {
	r := dice(4)
	for range 3000 {
		a, b := someSeries(r, 12), someSeries(r, 12)
		size := min(len(a), len(b))
		a, b = a[:size], b[:size]
		reach := one(r, []int{3, 12, injury.MaxLimit})
		limits := [2]int{between(r, 1, reach), between(r, 1, reach)}
		best, wanted := slowCombined(a, b, limits)
		sum, at, e := injury.Combined(a, b, limits)
		wantOK(t, fmt.Sprintf("Combined of %v and %v by %v", a, b, limits), pair[api.Ratio, int]{sum, at}, e, pair[api.Ratio, int]{lowest(best), wanted})
		if size < 3 {
			continue
		}
		first := true
		var greatest pair[int, int]
		for i := 1; i < size-1; i++ {
			if product := a[i]*a[i+1] - a[i]*a[i-1]; first || product > greatest.first {
				greatest = pair[int, int]{product, i}
				first = false
			}
		}
		product, at, e := injury.Viscous(a)
		wantOK(t, fmt.Sprintf("Viscous of %v", a), pair[int, int]{product, at}, e, greatest)
	}
}
