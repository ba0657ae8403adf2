package channel_test

import (
	"slices"
	"testing"

	"crumple/api"
	"crumple/channel"
)

// P2.2 (kernels): each function with ordinary inputs, at its limits, and with its errors in their order.

func TestCheckKernel(t *testing.T) {
	for _, k := range [][]int{{1}, {100}, {1, 2, 1}, {2, -1}, {-100, 100, 1}, {0, 0, 1}, {100, 100, 100, 100, 100, 100, 100}} {
		want(t, "CheckKernel", channel.CheckKernel(k), api.OK)
	}
	for _, bad := range badKernels() {
		want(t, "CheckKernel", channel.CheckKernel(bad.x), bad.e)
	}
}

func TestPassed(t *testing.T) {
	for _, x := range []struct{ l, k, passed []int }{
		{[]int{0, 0, 16, 0, 0}, []int{1, 2, 1}, []int{0, 0, 4, 8, 4}},
		{[]int{0, 0, 16, 0, 0}, []int{1, 3}, []int{0, 0, 4, 12, 0}},
		{[]int{16, 0, 0}, []int{1, 2, 1}, []int{16, 12, 4}},
		{[]int{1, 2, 3}, []int{1}, []int{1, 2, 3}},
		{[]int{1, 2, 3}, []int{7}, []int{1, 2, 3}},
		{[]int{1, 2, 3}, []int{0, 0, 1}, []int{1, 1, 1}},
		{[]int{0, 1, 0, -1}, []int{1, 1}, []int{0, 1, 1, 0}},
		{[]int{0, 3, 0, -3}, []int{1, 1}, []int{0, 2, 2, -1}},
		{[]int{0, 1, 2, 5}, []int{2, -1}, []int{0, 2, 3, 8}},
		{[]int{5}, []int{1, 2, 3, 4, 5, 6, 7}, []int{5}},
		{nil, []int{1, 2, 1}, nil},
	} {
		l, e := channel.Passed(sixteenths(x.l...), x.k)
		wantSamples(t, "Passed", l, x.passed...)
		want(t, "Passed", e, api.OK)
	}
}

func TestFiltered(t *testing.T) {
	for _, x := range []struct{ l, k, filtered []int }{
		{[]int{0, 0, 16, 0, 0}, []int{1, 2, 1}, []int{1, 4, 6, 4, 1}},
		{[]int{16, 0}, []int{1, 2, 1}, []int{11, 5}},
		{[]int{0, 0, 16, 0, 0}, []int{1, 3}, []int{0, 3, 10, 3, 0}},
		{[]int{1, 2, 3}, []int{1}, []int{1, 2, 3}},
		{[]int{1, 2, 3}, []int{9}, []int{1, 2, 3}},
		{[]int{1, 2, 3}, []int{0, 0, 1}, []int{1, 2, 3}},
		{[]int{0, 1, 0}, []int{2, -1}, []int{-2, 5, -2}},
		{[]int{0, 2, 0, 0}, []int{1, 1}, []int{1, 1, 1, 0}},
		{[]int{0, -2, 0, 0}, []int{1, 1}, []int{0, -1, 0, 0}},
		{[]int{-16}, []int{1, 2, 3, 4, 5, 6, 7}, []int{-16}},
		{nil, []int{1, 2, 1}, nil},
	} {
		l, e := channel.Filtered(sixteenths(x.l...), x.k)
		wantSamples(t, "Filtered", l, x.filtered...)
		want(t, "Filtered", e, api.OK)
	}
}

func TestLargeIntegers(t *testing.T) {
	for _, x := range []struct {
		l, k             []int
		passed, filtered api.Errno
	}{
		{[]int{0, 8192}, []int{2, -1}, api.OK, api.ErrLarge}, {[]int{0, 8193}, []int{2, -1}, api.ErrLarge, api.ErrLarge},
		{[]int{0, -8192}, []int{2, -1}, api.OK, api.ErrLarge}, {[]int{0, -8193}, []int{2, -1}, api.ErrLarge, api.ErrLarge},
		{[]int{-2, 3276, 0}, []int{2, -1}, api.OK, api.OK}, {[]int{0, 3277, 0}, []int{2, -1}, api.OK, api.ErrLarge},
		{[]int{2, -3276, 0}, []int{2, -1}, api.OK, api.OK}, {[]int{0, -3277, 0}, []int{2, -1}, api.OK, api.ErrLarge},
		// These are half a step beyond a limit: it is rounded to the greater integer.
		{[]int{16383, 16384}, []int{3, -1}, api.ErrLarge, api.ErrLarge}, {[]int{-16383, -16384}, []int{3, -1}, api.OK, api.ErrLarge},
		{[]int{4, 6555, 0}, []int{3, -1}, api.OK, api.ErrLarge}, {[]int{-4, -6555, 0}, []int{3, -1}, api.OK, api.OK},
		{[]int{16384, -16384, 16384}, []int{1, 1, 1}, api.OK, api.OK}, {[]int{-16384}, []int{3, -1, -1}, api.OK, api.OK},
	} {
		l, e := channel.Passed(sixteenths(x.l...), x.k)
		wantError(t, "Passed", l, e, x.passed)
		l, e = channel.Filtered(sixteenths(x.l...), x.k)
		wantError(t, "Filtered", l, e, x.filtered)
	}
}

func TestFilterErrors(t *testing.T) {
	for _, run := range []func([]float32, []int) ([]float32, api.Errno){channel.Passed, channel.Filtered} {
		for _, bad := range badRecords() {
			l, e := run(bad.x, nil)
			wantError(t, "a bad record", l, e, bad.e)
		}
		for _, bad := range badKernels() {
			l, e := run(sixteenths(16384, 1), bad.x)
			wantError(t, "a bad kernel", l, e, bad.e)
			l, e = run(nil, bad.x)
			wantError(t, "a bad kernel, and no samples", l, e, bad.e)
		}
	}
}

func TestWeights(t *testing.T) {
	for _, x := range []struct {
		k, weights []int
		divisor    int
	}{
		{[]int{1, 2, 1}, []int{1, 4, 6, 4, 1}, 16},
		{[]int{2, -1}, []int{-2, 5, -2}, 1},
		{[]int{3}, []int{9}, 9},
		{[]int{1, 0, 0, 2}, []int{2, 0, 0, 5, 0, 0, 2}, 9},
		{[]int{1, 2, 3}, []int{3, 8, 14, 8, 3}, 36},
		{[]int{100, 100, 100, 100, 100, 100, 100}, []int{10000, 20000, 30000, 40000, 50000, 60000, 70000, 60000, 50000, 40000, 30000, 20000, 10000}, 490000},
	} {
		weights, divisor, e := channel.Weights(x.k)
		want(t, "Weights", weights, x.weights)
		want(t, "their divisor", divisor, x.divisor)
		want(t, "Weights", e, api.OK)
	}
	for _, bad := range badKernels() {
		weights, divisor, e := channel.Weights(bad.x)
		wantError(t, "Weights", weights, e, bad.e)
		wantError(t, "their divisor", divisor, e, bad.e)
	}
}

// at returns the element at an index, padded.
func at[A any](l []A, i int) A { return l[min(max(i, 0), len(l)-1)] }

// thereAndBack returns the sum at an index of a kernel that is run there and back, by its definition.
func thereAndBack(l, k []int, n int) int {
	sum := 0
	for i, a := range k {
		for j, b := range k {
			sum += a * b * at(l, n+i-j)
		}
	}
	return sum
}

// wantNearest checks that an integer is the nearest one to a quotient: from the middle the greater one.
func wantNearest(t *testing.T, what string, got, a, b int) {
	t.Helper()
	if off := 2 * (got*b - a); off > b || off <= -b {
		t.Errorf("%s: %d is not the nearest to %d by %d", what, got, a, b)
	}
}

func TestFiltersByTheirDefinitions(t *testing.T) {
	r := dice(2)
	for range 500 {
		k := someKernel(r, between(r, 1, 9))
		l := some(r, between(r, 1, 12), 60)
		divisor := 0
		for _, w := range k {
			divisor += w
		}
		passed, e := channel.Passed(sixteenths(l...), k)
		want(t, "Passed", e, api.OK)
		filtered, e := channel.Filtered(sixteenths(l...), k)
		if e == api.ErrLarge {
			continue
		}
		want(t, "Filtered", e, api.OK)
		want(t, "the lengths", []int{len(passed), len(filtered)}, []int{len(l), len(l)})
		for n := range l {
			sum := 0
			for i, w := range k {
				sum += w * at(l, n-i)
			}
			wantNearest(t, "Passed", integer(passed[n]), sum, divisor)
			wantNearest(t, "Filtered", integer(filtered[n]), thereAndBack(l, k, n), divisor*divisor)
		}
	}
}

func TestEnclosed(t *testing.T) {
	for _, x := range []struct {
		l        []api.Interval
		k        []int
		enclosed []api.Interval
	}{
		{[]api.Interval{interval(0, 16), interval(0, 0)}, []int{1, 2, 1}, []api.Interval{interval(0, 11), interval(0, 5)}},
		{[]api.Interval{interval(0, 1), interval(0, 0), interval(3, 3)}, []int{2, -1}, []api.Interval{interval(0, 3), interval(-8, -6), interval(9, 9)}},
		{[]api.Interval{interval(-200000, 200000)}, []int{2, -1}, []api.Interval{interval(-200000, 200000)}},
		{[]api.Interval{interval(-5, 7)}, []int{1, 2, 3, 4, 5, 6, 7}, []api.Interval{interval(-5, 7)}},
		{[]api.Interval{interval(0, 0), interval(-1, 1), interval(0, 0)}, []int{1, 2, 1}, []api.Interval{interval(-1, 1), interval(-1, 1), interval(-1, 1)}},
		{[]api.Interval{interval(1, 1), interval(2, 2), interval(1, 1)}, []int{1, 1}, []api.Interval{interval(1, 2), interval(1, 2), interval(1, 2)}},
		{[]api.Interval{interval(7, 7), interval(80002, 80002), interval(0, 0)}, []int{3, -1}, []api.Interval{interval(-59990, -59989), interval(199999, 200000), interval(-60002, -60001)}},
		{[]api.Interval{interval(-7, -7), interval(-80002, -80002), interval(0, 0)}, []int{3, -1}, []api.Interval{interval(59989, 59990), interval(-200000, -199999), interval(60001, 60002)}},
	} {
		l, e := channel.Enclosed(x.l, x.k)
		want(t, "Enclosed", l, x.enclosed)
		want(t, "Enclosed", e, api.OK)
	}
	l, e := channel.Enclosed(slices.Repeat([]api.Interval{interval(3, 4)}, api.MaxSamples), []int{1, 2, 3})
	want(t, "Enclosed of 4096", l, slices.Repeat([]api.Interval{interval(3, 4)}, api.MaxSamples))
	want(t, "Enclosed of 4096", e, api.OK)
}

func TestEnclosedErrors(t *testing.T) {
	for _, bad := range badIntervals() {
		l, e := channel.Enclosed(bad.x, nil)
		wantError(t, "Enclosed of bad intervals", l, e, bad.e)
	}
	for _, bad := range badKernels() {
		l, e := channel.Enclosed([]api.Interval{interval(200000, 200000), interval(0, 0)}, bad.x)
		wantError(t, "Enclosed by a bad kernel", l, e, bad.e)
	}
	for _, x := range []struct {
		low, high, beside int
		k                 []int
		e                 api.Errno
	}{
		{40000, 40000, 0, []int{2, -1}, api.OK}, {40000, 40001, 0, []int{2, -1}, api.ErrLarge},
		{-40000, -40000, 0, []int{2, -1}, api.OK}, {-40001, -40000, 0, []int{2, -1}, api.ErrLarge},
		// These are a quarter of a step beyond a limit: it is rounded outward.
		{80001, 80001, 3, []int{3, -1}, api.ErrLarge}, {-80001, -80001, -3, []int{3, -1}, api.ErrLarge},
	} {
		l, e := channel.Enclosed([]api.Interval{interval(x.beside, x.beside), interval(x.low, x.high), interval(0, 0)}, x.k)
		want(t, "Enclosed near a limit", e, x.e)
		want(t, "whether there are intervals", len(l) > 0, x.e == api.OK)
	}
}

// choices visits all numbers of intervals.
func choices(l []api.Interval, visit func([]int)) {
	chosen := make([]int, len(l))
	var choose func(i int)
	choose = func(i int) {
		if i == len(l) {
			visit(chosen)
			return
		}
		for x := l[i].Low; x <= l[i].High; x++ {
			chosen[i] = x
			choose(i + 1)
		}
	}
	choose(0)
}

func TestEnclosedByItsDefinition(t *testing.T) {
	r := dice(3)
	for range 200 {
		k := someKernel(r, between(r, 1, 9))
		var l []api.Interval
		for range between(r, 1, 5) {
			low := between(r, -20, 20)
			l = append(l, interval(low, low+between(r, 0, 2)))
		}
		_, divisor, _ := channel.Weights(k)
		enclosed, e := channel.Enclosed(l, k)
		want(t, "Enclosed", e, api.OK)
		least, greatest := make([]int, len(l)), make([]int, len(l))
		isFirst := true
		choices(l, func(chosen []int) {
			for n := range l {
				sum := thereAndBack(chosen, k, n)
				if isFirst {
					least[n], greatest[n] = sum, sum
				}
				least[n], greatest[n] = min(least[n], sum), max(greatest[n], sum)
			}
			isFirst = false
		})
		for n, x := range enclosed {
			want(t, "an interval", x, interval(floor(least[n], divisor), ceiling(greatest[n], divisor)))
		}
		want(t, "their number", len(enclosed), len(l))
	}
}
