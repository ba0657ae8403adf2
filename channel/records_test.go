package channel_test

import (
	"math"
	"slices"
	"testing"

	"crumple/api"
	"crumple/channel"
)

// P2.3 (values): records that are turned, compared, squared and summed, with ordinary inputs, at their limits, and with their errors in their order.

func TestTurned(t *testing.T) {
	for _, x := range []struct {
		l      []float32
		sign   int
		turned []int
	}{
		{sixteenths(1, -2, 0, 16384, -16384), -1, []int{-1, 2, 0, -16384, 16384}},
		{sixteenths(1, -2, 0, 16384, -16384), 1, []int{1, -2, 0, 16384, -16384}},
		{[]float32{negative, 0.0625}, -1, []int{0, -1}},
		{nil, -1, nil},
		{nil, 1, nil},
	} {
		before := slices.Clone(x.l)
		l, e := channel.Turned(x.l, channel.Code{Place: "head", Axis: 1, Sign: x.sign})
		wantSamples(t, "Turned", l, x.turned...)
		want(t, "Turned", e, api.OK)
		want(t, "the record", x.l, before)
		if len(l) > 0 {
			l[0] = 99
			want(t, "the record, after a change of the turned one", x.l, before)
		}
	}
	for _, bad := range badRecords() {
		l, e := channel.Turned(bad.x, channel.Code{})
		wantError(t, "Turned of a bad record", l, e, bad.e)
	}
	for _, bad := range badCodes() {
		l, e := channel.Turned(sixteenths(1), bad.x)
		wantError(t, "Turned by a bad code", l, e, bad.e)
		l, e = channel.Turned(nil, bad.x)
		wantError(t, "Turned by a bad code, without samples", l, e, bad.e)
	}
}

func TestAgreement(t *testing.T) {
	full := slices.Repeat([]float32{1024}, api.MaxSamples)
	opposite := slices.Repeat([]float32{-1024}, api.MaxSamples)
	for _, x := range []struct {
		a, b []float32
		sign int
	}{
		{sixteenths(1, -2, 3), sixteenths(-1, 2, -3), -1},
		{sixteenths(1, -2, 3), sixteenths(1, -2, 3), 1},
		{sixteenths(1, 2), sixteenths(2, -1), 0},
		{sixteenths(1, 2), sixteenths(3, -1), 1},
		{sixteenths(1, 2), sixteenths(1, -1), -1},
		{sixteenths(0, 0), sixteenths(9, -9), 0},
		{[]float32{negative}, sixteenths(9), 0},
		{nil, nil, 0},
		{full, full, 1}, {full, opposite, -1}, {opposite, opposite, 1},
	} {
		sign, e := channel.Agreement(x.a, x.b)
		want(t, "Agreement", sign, x.sign)
		want(t, "Agreement", e, api.OK)
	}
	for _, bad := range badRecords() {
		sign, e := channel.Agreement(bad.x, []float32{infinite, 0.01})
		wantError(t, "Agreement of a bad record", sign, e, bad.e)
		sign, e = channel.Agreement(sixteenths(1), bad.x)
		wantError(t, "Agreement with a bad record", sign, e, bad.e)
	}
	for _, x := range [][2]int{{0, 1}, {1, 0}, {3, 2}, {2, 3}} {
		sign, e := channel.Agreement(slices.Repeat([]float32{1}, x[0]), slices.Repeat([]float32{1}, x[1]))
		wantError(t, "Agreement of other lengths", sign, e, api.ErrShape)
	}
}

func TestSquares(t *testing.T) {
	for _, x := range []struct {
		l       [][]float32
		squares []int
	}{
		{[][]float32{sixteenths(1, -2, 3), sixteenths(-1, 2, -3)}, []int{2, 8, 18}},
		{[][]float32{sixteenths(1, -2, 3)}, []int{1, 4, 9}},
		{[][]float32{sixteenths(3, 0), sixteenths(4, 1), sixteenths(12, -1)}, []int{169, 2}},
		{[][]float32{nil, {}}, nil},
		{slices.Repeat([][]float32{sixteenths(16384, -16384)}, 16), []int{4294967296, 4294967296}},
	} {
		squares, e := channel.Squares(x.l)
		want(t, "Squares", squares, x.squares)
		want(t, "Squares", e, api.OK)
	}
	many := slices.Repeat([][]float32{{nan}}, 17)
	for _, x := range []wrong[[][]float32]{
		{nil, api.ErrEmpty},
		{many, api.ErrMany},
		{many[:16], api.ErrForm},
		{[][]float32{sixteenths(1), sixteenths(1, 2), {nan}}, api.ErrShape},
		{[][]float32{sixteenths(1, 2), sixteenths(1)}, api.ErrShape},
		{[][]float32{nil, sixteenths(1)}, api.ErrShape},
		{[][]float32{sixteenths(1), sixteenths(2), nil}, api.ErrShape},
		{[][]float32{sixteenths(1), {0.01, nan}}, api.ErrRange},
	} {
		squares, e := channel.Squares(x.x)
		wantError(t, "Squares", squares, e, x.e)
	}
	for _, bad := range badRecords() {
		squares, e := channel.Squares([][]float32{sixteenths(1, 2), bad.x, sixteenths(1)})
		wantError(t, "Squares of a bad record", squares, e, bad.e)
		squares, e = channel.Squares([][]float32{bad.x, sixteenths(1)})
		wantError(t, "Squares of a bad first record", squares, e, bad.e)
	}
}

func TestSpeedsAndWays(t *testing.T) {
	for _, x := range []struct {
		l            []int
		start        int
		speeds, ways []int
	}{
		{[]int{1, -2, 3}, 10, []int{11, 9, 12}, []int{11, 20, 32}},
		{[]int{1, -2, 3}, 0, []int{1, -1, 2}, []int{1, 0, 2}},
		{[]int{0}, -999999999, []int{-999999999}, []int{-999999999}},
		{[]int{16384, 16384}, 999999999, []int{1000016383, 1000032767}, []int{1000016383, 2000049150}},
		{[]int{-16384, -16384}, -999999999, []int{-1000016383, -1000032767}, []int{-1000016383, -2000049150}},
		{nil, 5, nil, nil},
	} {
		speeds, e := channel.Speeds(sixteenths(x.l...), x.start)
		want(t, "Speeds", speeds, x.speeds)
		want(t, "Speeds", e, api.OK)
		ways, e := channel.Ways(sixteenths(x.l...), x.start)
		want(t, "Ways", ways, x.ways)
		want(t, "Ways", e, api.OK)
	}
	// The greatest way of all: the last of the sums does not stop at a limit.
	ways, e := channel.Ways(slices.Repeat([]float32{1024}, api.MaxSamples), api.MaxNumber)
	want(t, "the greatest way", ways[api.MaxSamples-1], 4096*999999999+16384*(4096*4097/2))
	want(t, "Ways", e, api.OK)
	for _, run := range []func([]float32, int) ([]int, api.Errno){channel.Speeds, channel.Ways} {
		for _, bad := range badRecords() {
			l, e := run(bad.x, api.MaxNumber+1)
			wantError(t, "a bad record", l, e, bad.e)
		}
		for _, start := range []int{1000000000, -1000000000, math.MinInt, math.MaxInt} {
			l, e := run(sixteenths(1, 2), start)
			wantError(t, "a bad start", l, e, api.ErrRange)
		}
	}
}
