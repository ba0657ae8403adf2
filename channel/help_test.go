package channel_test

import (
	"fmt"
	"math"
	"math/rand/v2"
	"slices"
	"testing"

	"crumple/api"
	"crumple/channel"
)

var (
	nan      = float32(math.NaN())
	infinite = float32(math.Inf(1))
	negative = float32(math.Copysign(0, -1))
)

// want compares two results as they are printed: nil and empty lists are alike.
func want[T any](t *testing.T, what string, got, wanted T) {
	t.Helper()
	if a, b := fmt.Sprintf("%v", got), fmt.Sprintf("%v", wanted); a != b {
		t.Errorf("%s: got %s, want %s", what, a, b)
	}
}

// wantSamples compares a record with its expected integers: 0 and -0 are alike.
func wantSamples(t *testing.T, what string, got []float32, wanted ...int) {
	t.Helper()
	want(t, what, integers(got), wanted)
	for _, x := range got {
		if float32(integer(x))/16 != x {
			t.Errorf("%s: %v is no sample", what, x)
		}
	}
}

// wantError checks an error, and that a result beside one is its zero value.
func wantError[T any](t *testing.T, what string, got T, e, wanted api.Errno) {
	t.Helper()
	want(t, what+", the error", e, wanted)
	if e != api.OK {
		want(t, what+" beside the error", got, *new(T))
	}
}

// dice are the same on each run.
func dice(seed uint64) *rand.Rand {
	return rand.New(rand.NewPCG(seed, 2))
}

// sixteenths returns the samples with some integers.
func sixteenths(l ...int) []float32 {
	var s []float32
	for _, u := range l {
		s = append(s, float32(u)/16)
	}
	return s
}

func integer(x float32) int { return int(16 * float64(x)) }

func integers(l []float32) []int {
	var s []int
	for _, x := range l {
		s = append(s, integer(x))
	}
	return s
}

// between returns a number from low to high.
func between(r *rand.Rand, low, high int) int {
	return low + r.IntN(high-low+1)
}

// some returns n numbers from -most to most.
func some(r *rand.Rand, n, most int) []int {
	var l []int
	for range n {
		l = append(l, between(r, -most, most))
	}
	return l
}

// someKernel returns a kernel of up to seven weights from -most to most.
func someKernel(r *rand.Rand, most int) []int {
	for {
		k := some(r, between(r, 1, 7), most)
		if channel.CheckKernel(k) == api.OK {
			return k
		}
	}
}

// floor returns the greatest integer that is not above a quotient, ceiling the least one that is not below.
func floor(a, b int) int   { return int(math.Floor(float64(a) / float64(b))) }
func ceiling(a, b int) int { return int(math.Ceil(float64(a) / float64(b))) }

func interval(low, high int) api.Interval { return api.Interval{Low: low, High: high} }

func span(from, to int) api.Span { return api.Span{From: from, To: to} }

// wrong is an argument with its first error; most have later errors, too.
type wrong[T any] struct {
	x T
	e api.Errno
}

// badRecords has a record for each error of records.
func badRecords() []wrong[[]float32] {
	many := make([]float32, api.MaxSamples+1)
	many[0] = nan
	return []wrong[[]float32]{
		{many, api.ErrMany},
		{[]float32{1, nan, 0.01}, api.ErrForm},
		{[]float32{1, -infinite, 0.01}, api.ErrForm},
		{[]float32{1, 0.01, nan}, api.ErrRange},
		{[]float32{1, 1024.0625, nan}, api.ErrRange},
	}
}

// badKernels has kernels in the order of their errors.
func badKernels() []wrong[[]int] {
	return []wrong[[]int]{
		{nil, api.ErrEmpty},
		{[]int{}, api.ErrEmpty},
		{[]int{-101, 0, 0, 0, 0, 0, 0, 0}, api.ErrMany},
		{[]int{1, 1, 1, 1, 1, 1, 1, 1}, api.ErrMany},
		{[]int{1, -101}, api.ErrRange},
		{[]int{101}, api.ErrRange},
		{[]int{100, 100, 100, 100, 100, 100, -101}, api.ErrRange},
		{[]int{math.MaxInt, math.MaxInt}, api.ErrRange},
		{[]int{math.MinInt}, api.ErrRange},
		{[]int{0}, api.ErrZero},
		{[]int{1, -1}, api.ErrZero},
		{[]int{-100, 99}, api.ErrZero},
	}
}

// badCodes has codes in the order of their errors.
func badCodes() []wrong[channel.Code] {
	return []wrong[channel.Code]{
		{channel.Code{Place: "", Axis: 3, Sign: 0}, api.ErrName},
		{channel.Code{Place: "he-ad", Axis: 0, Sign: 1}, api.ErrName},
		{channel.Code{Place: "9head", Axis: -1, Sign: 2}, api.ErrName},
		{channel.Code{Place: "h\u00e9ad", Axis: 0, Sign: 1}, api.ErrName},
		{channel.Code{Place: "abcdefghijklmnopqrstuvwxy", Axis: 0, Sign: 1}, api.ErrName},
		{channel.Code{Place: "head", Axis: -1, Sign: 1}, api.ErrRange},
		{channel.Code{Place: "head", Axis: 3, Sign: 1}, api.ErrRange},
		{channel.Code{Place: "head", Axis: math.MaxInt, Sign: 1}, api.ErrRange},
		{channel.Code{Place: "head", Axis: 0, Sign: 0}, api.ErrRange},
		{channel.Code{Place: "head", Axis: 0, Sign: 2}, api.ErrRange},
		{channel.Code{Place: "head", Axis: 0, Sign: -2}, api.ErrRange},
		{channel.Code{Place: "head", Axis: 2, Sign: math.MinInt}, api.ErrRange},
	}
}

func sensor(name string, scale, low, high int) channel.Sensor {
	return channel.Sensor{Name: name, Scale: scale, Sense: interval(low, high)}
}

// badSensors has sensors in the order of their errors.
func badSensors() []wrong[channel.Sensor] {
	return []wrong[channel.Sensor]{
		{sensor("", 0, 0, -1), api.ErrName},
		{sensor("a b", 1600, 990, 1010), api.ErrName},
		{sensor("abcdefghijklmnopqrstuvwxy", 1600, 990, 1010), api.ErrName},
		{sensor("s", 0, 990, 980), api.ErrRange},
		{sensor("s", -1, 990, 980), api.ErrRange},
		{sensor("s", api.MaxUnit+1, 990, 980), api.ErrRange},
		{sensor("s", math.MinInt, 990, 980), api.ErrRange},
		{sensor("s", 1600, 0, 1010), api.ErrRange},
		{sensor("s", 1600, -1, 1010), api.ErrRange},
		{sensor("s", 1600, 4001, 4000), api.ErrRange},
		{sensor("s", 1600, 990, 4001), api.ErrRange},
		{sensor("s", 1600, 990, 0), api.ErrRange},
		{sensor("s", 1600, math.MinInt, math.MaxInt), api.ErrRange},
		{sensor("s", 1600, 990, 989), api.ErrOrder},
		{sensor("s", 1600, 4000, 1), api.ErrOrder},
	}
}

// badIntervals has intervals in the order of their errors.
func badIntervals() []wrong[[]api.Interval] {
	good := interval(-channel.MaxSize, channel.MaxSize)
	return []wrong[[]api.Interval]{
		{nil, api.ErrEmpty},
		{slices.Repeat([]api.Interval{interval(1, 0)}, api.MaxSamples+1), api.ErrMany},
		{[]api.Interval{good, interval(-channel.MaxSize-1, 0), interval(1, 0)}, api.ErrRange},
		{[]api.Interval{good, interval(channel.MaxSize+1, 0)}, api.ErrRange},
		{[]api.Interval{good, interval(0, channel.MaxSize+1)}, api.ErrRange},
		{[]api.Interval{good, interval(0, -channel.MaxSize-1)}, api.ErrRange},
		{[]api.Interval{interval(math.MaxInt, math.MinInt)}, api.ErrRange},
		{[]api.Interval{good, interval(1, 0), interval(0, channel.MaxSize+1)}, api.ErrOrder},
	}
}

// badValues has values in the order of their errors.
func badValues() []wrong[[]channel.Value] {
	var l []wrong[[]channel.Value]
	for _, bad := range badIntervals() {
		var values []channel.Value
		for i, x := range bad.x {
			// Flags do not excuse an end.
			values = append(values, channel.Value{Low: x.Low, High: x.High, Under: i%2 == 1, Over: i%2 == 1})
		}
		l = append(l, wrong[[]channel.Value]{values, bad.e})
	}
	return l
}
