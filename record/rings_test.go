package record_test

import (
	"math"
	"slices"
	"testing"

	"crumple/api"
	"crumple/record"
)

// P1.2 (records): each function with ordinary inputs, at its limits, and with its errors in their order.

func ring(next int, full bool, l ...float32) record.Ring {
	return record.Ring{Samples: l, Next: next, Full: full}
}

// badRings has a ring for each error of rings, in the order of the errors; each has the later errors, too, where it can.
func badRings() []struct {
	r record.Ring
	e api.Errno
} {
	many := make([]float32, 257)
	many[3] = nan
	return []struct {
		r record.Ring
		e api.Errno
	}{
		{ring(-1, false), api.ErrEmpty},
		{ring(-1, false, many...), api.ErrMany},
		{ring(-1, false, 1, nan, 0.01), api.ErrForm},
		{ring(3, false, 1, 0.01, nan), api.ErrRange},
		{ring(-1, false, 1, 0), api.ErrRange},
		{ring(2, true, 1, 0), api.ErrRange},
		{ring(math.MinInt, false, 1, 0), api.ErrRange},
		{ring(1, false, 1, 0, 2), api.ErrForm},
		{ring(0, false, 1, 0), api.ErrForm},
	}
}

func TestCheckRing(t *testing.T) {
	for _, r := range []record.Ring{ring(0, false, 0), ring(0, true, 1), ring(1, false, 1, 0), ring(1, true, 1, 2), ring(0, false, negative, 0), ring(255, true, make([]float32, 256)...)} {
		want(t, "CheckRing", record.CheckRing(r), api.OK)
	}
	for _, x := range badRings() {
		want(t, "CheckRing", record.CheckRing(x.r), x.e)
	}
}

func TestWritten(t *testing.T) {
	for _, x := range []struct {
		r record.Ring
		l []float32
		w record.Ring
	}{
		{ring(1, false, 5, 0, 0), []float32{6, 7, 8}, ring(1, true, 8, 6, 7)},
		{ring(1, false, 5, 0, 0), []float32{6}, ring(2, false, 5, 6, 0)},
		{ring(1, false, 5, 0, 0), []float32{6, 7}, ring(0, true, 5, 6, 7)},
		{ring(2, true, 5, 6, 7), nil, ring(2, true, 5, 6, 7)},
		{ring(2, true, 5, 6, 7), []float32{8, 9}, ring(1, true, 9, 6, 8)},
		{ring(0, false, 0), []float32{1, 2}, ring(0, true, 2)},
	} {
		before := slices.Clone(x.r.Samples)
		w, e := record.Written(x.r, x.l)
		want(t, "Written", w, x.w)
		want(t, "Written", e, api.OK)
		w.Samples[0] = 99
		want(t, "the ring that was written", x.r.Samples, before)
	}
	for _, x := range badRings() {
		w, e := record.Written(x.r, []float32{nan})
		wantError(t, "Written", w, e, x.e)
	}
	for wanted, l := range badSamples() {
		w, e := record.Written(ring(0, false, 0, 0), l)
		wantError(t, "Written of bad samples", w, e, wanted)
	}
}

func TestUnwound(t *testing.T) {
	for _, x := range []struct {
		r record.Ring
		l []float32
	}{
		{ring(1, true, 8, 6, 7), []float32{6, 7, 8}},
		{ring(0, true, 8, 6, 7), []float32{8, 6, 7}},
		{ring(2, false, 8, 6, 0), []float32{8, 6}},
		{ring(0, false, 0, 0), nil},
	} {
		l, e := record.Unwound(x.r)
		want(t, "Unwound", l, x.l)
		want(t, "Unwound", e, api.OK)
		if len(l) > 0 {
			before := slices.Clone(x.r.Samples)
			l[0] = 99
			want(t, "the ring that was unwound", x.r.Samples, before)
		}
	}
	for _, x := range badRings() {
		l, e := record.Unwound(x.r)
		wantError(t, "Unwound", l, e, x.e)
	}
}

func TestTriggered(t *testing.T) {
	all := []float32{0, 1, 0, -3, 4}
	for _, x := range []struct {
		level, before, after int
		l                    []float32
		at                   int
		e                    api.Errno
	}{
		{16, 2, 2, []float32{1, 0, -3, 4}, 3, api.OK},
		{16, 1, 1, []float32{0, 1}, 1, api.OK},
		{17, 0, 2, []float32{-3, 4}, 3, api.OK},
		{48, 3, 1, []float32{0, 1, 0, -3}, 3, api.OK},
		{64, 0, 1, []float32{4}, 4, api.OK},
		{1, 4, 1, []float32{0, 1, 0, -3, 4}, 4, api.OK},
		{65, 0, 1, nil, 0, api.ErrNone},
		{api.MaxUnit, 0, 4096, nil, 0, api.ErrNone},
		{1, 4096, 1, nil, 0, api.ErrNone},
		{64, 0, 2, nil, 0, api.ErrShort},
		{16, 0, 4096, nil, 0, api.ErrShort},
		{0, 0, 1, nil, 0, api.ErrRange}, {api.MaxUnit + 1, 0, 1, nil, 0, api.ErrRange},
		{1, -1, 1, nil, 0, api.ErrRange}, {1, 4097, 1, nil, 0, api.ErrRange},
		{1, 0, 0, nil, 0, api.ErrRange}, {1, 0, 4097, nil, 0, api.ErrRange},
		{math.MinInt, math.MaxInt, math.MinInt, nil, 0, api.ErrRange},
	} {
		l, at, e := record.Triggered(all, x.level, x.before, x.after)
		want(t, "Triggered", l, x.l)
		want(t, "Triggered at", at, x.at)
		want(t, "Triggered", e, x.e)
		if len(l) > 0 {
			l[0] = 99
			want(t, "the whole record", all, []float32{0, 1, 0, -3, 4})
		}
	}
	for wanted, l := range badSamples() {
		l, at, e := record.Triggered(l, 0, -1, 0)
		wantError(t, "Triggered of bad samples", l, e, wanted)
		want(t, "Triggered of bad samples", at, 0)
	}
}

func TestPrefixesAndSum(t *testing.T) {
	all := []float32{0, 1, 0, -3, 4}
	l, e := record.Prefixes(all)
	want(t, "Prefixes", l, []int{0, 0, 16, 16, -32, 32})
	want(t, "Prefixes", e, api.OK)
	l, e = record.Prefixes(nil)
	want(t, "Prefixes of none", l, []int{0})
	want(t, "Prefixes of none", e, api.OK)
	for _, x := range []struct {
		from, to, sum int
		e             api.Errno
	}{
		{1, 4, -32, api.OK}, {0, 5, 32, api.OK}, {0, 0, 0, api.OK}, {5, 5, 0, api.OK}, {4, 5, 64, api.OK},
		{-1, 2, 0, api.ErrSpan}, {2, 1, 0, api.ErrSpan}, {0, 6, 0, api.ErrSpan}, {6, 6, 0, api.ErrSpan}, {math.MinInt, math.MaxInt, 0, api.ErrSpan},
	} {
		n, e := record.Sum(all, api.Span{From: x.from, To: x.to})
		want(t, "Sum", n, x.sum)
		want(t, "Sum", e, x.e)
	}
	for wanted, bad := range badSamples() {
		l, e := record.Prefixes(bad)
		wantError(t, "Prefixes of bad samples", l, e, wanted)
		n, e := record.Sum(bad, api.Span{From: -1})
		wantError(t, "Sum of bad samples", n, e, wanted)
	}
}

func TestExtremes(t *testing.T) {
	for _, x := range []struct {
		l []float32
		x record.Extreme
		e api.Errno
	}{
		{[]float32{0, 1, 0, -3, 4}, record.Extreme{Low: -48, LowAt: 3, High: 64, At: 4}, api.OK},
		{[]float32{2, 1, 2, 1}, record.Extreme{Low: 16, LowAt: 1, High: 32}, api.OK},
		{[]float32{-5, -6, -5}, record.Extreme{Low: -96, LowAt: 1, High: -80}, api.OK},
		{[]float32{3}, record.Extreme{Low: 48, High: 48}, api.OK},
		{[]float32{3, 1}, record.Extreme{Low: 16, LowAt: 1, High: 48}, api.OK},
		{[]float32{0, negative}, record.Extreme{}, api.OK},
		{nil, record.Extreme{}, api.ErrEmpty},
	} {
		got, e := record.Extremes(x.l)
		want(t, "Extremes", got, x.x)
		want(t, "Extremes", e, x.e)
	}
	for wanted, l := range badSamples() {
		x, e := record.Extremes(l)
		wantError(t, "Extremes of bad samples", x, e, wanted)
	}
}

func TestThinned(t *testing.T) {
	all := []float32{0, 1, 0, -3, 4}
	for _, x := range []struct {
		step, from int
		l          []float32
		e          api.Errno
	}{
		{2, 1, []float32{1, -3}, api.OK}, {2, 0, []float32{0, 0, 4}, api.OK}, {3, 2, []float32{0}, api.OK}, {1, 0, all, api.OK},
		{16, 0, []float32{0}, api.OK}, {16, 15, nil, api.OK},
		{0, 0, nil, api.ErrRange}, {17, 0, nil, api.ErrRange}, {2, 2, nil, api.ErrRange}, {2, -1, nil, api.ErrRange}, {math.MinInt, 0, nil, api.ErrRange},
	} {
		l, e := record.Thinned(all, x.step, x.from)
		want(t, "Thinned", l, x.l)
		want(t, "Thinned", e, x.e)
		if len(l) == len(all) {
			l[0] = 99
			want(t, "the whole record", all[0], 0)
		}
	}
	for wanted, l := range badSamples() {
		l, e := record.Thinned(l, 0, -1)
		wantError(t, "Thinned of bad samples", l, e, wanted)
	}
}

func TestStretched(t *testing.T) {
	for _, x := range []struct {
		l    []float32
		step int
		out  []float32
	}{
		{[]float32{1, 2}, 4, []float32{1, 1.25, 1.5, 1.75, 2}},
		{sixteenths(0, 1), 2, sixteenths(0, 1, 1)},
		{sixteenths(0, -1), 2, sixteenths(0, 0, -1)},
		{sixteenths(-3, 0, -5), 2, sixteenths(-3, -1, 0, -2, -5)},
		{sixteenths(0, 1), 3, sixteenths(0, 0, 1, 1)},
		{sixteenths(0, -2), 3, sixteenths(0, -1, -1, -2)},
		{[]float32{-1024, 1024}, 2, []float32{-1024, 0, 1024}},
		{[]float32{7, 8}, 1, []float32{7, 8}},
		{[]float32{7}, 16, []float32{7}},
	} {
		l, e := record.Stretched(x.l, x.step)
		want(t, "Stretched", l, x.out)
		want(t, "Stretched", e, api.OK)
	}
	for _, x := range []struct {
		n, step, length int
		e               api.Errno
	}{
		{4096, 1, 4096, api.OK}, {2048, 2, 4095, api.OK}, {256, 16, 4081, api.OK}, {1366, 3, 4096, api.OK},
		{2049, 2, 0, api.ErrMany}, {257, 16, 0, api.ErrMany}, {4096, 2, 0, api.ErrMany},
		{0, 2, 0, api.ErrEmpty}, {0, 0, 0, api.ErrRange}, {4096, 17, 0, api.ErrRange}, {1, -1, 0, api.ErrRange}, {1, math.MaxInt, 0, api.ErrRange},
	} {
		l, e := record.Stretched(make([]float32, x.n), x.step)
		want(t, "the length of Stretched", len(l), x.length)
		want(t, "Stretched", e, x.e)
	}
	for wanted, l := range badSamples() {
		l, e := record.Stretched(l, 0)
		wantError(t, "Stretched of bad samples", l, e, wanted)
	}
}
