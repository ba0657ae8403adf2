package channel_test

import (
	"testing"

	"crumple/api"
	"crumple/channel"
)

// P2.3 (values): peaks, clipped spans and gaps, with ordinary inputs, at their limits, and with their errors in their order.

func value(low, high int) channel.Value { return channel.Value{Low: low, High: high} }
func under(low, high int) channel.Value { return channel.Value{Low: low, High: high, Under: true} }
func over(low, high int) channel.Value  { return channel.Value{Low: low, High: high, Over: true} }
func both(low, high int) channel.Value {
	return channel.Value{Low: low, High: high, Under: true, Over: true}
}

func TestPeak(t *testing.T) {
	for _, x := range []struct {
		l      []channel.Value
		peak   api.Interval
		isOpen bool
	}{
		{[]channel.Value{value(-3, 0), value(156, 162), over(5, 900)}, interval(156, 900), true},
		{[]channel.Value{value(-3, 0), value(156, 162), value(5, 900)}, interval(156, 900), false},
		{[]channel.Value{value(-3, -1)}, interval(-3, -1), false},
		{[]channel.Value{over(-3, -1)}, interval(-3, -1), true},
		{[]channel.Value{over(1, 2), value(5, 6)}, interval(5, 6), true},
		{[]channel.Value{value(1, 2), under(5, 6), value(3, 4)}, interval(3, 6), false},
		{[]channel.Value{under(5, 6), value(-7, 7)}, interval(-7, 7), false},
		{[]channel.Value{both(5, 6), value(1, 2)}, interval(1, 6), true},
		{[]channel.Value{value(1, 9), value(8, 8), value(2, 3)}, interval(8, 9), false},
		{[]channel.Value{value(-200000, -200000)}, interval(-200000, -200000), false},
		{[]channel.Value{value(-200000, 200000), under(200000, 200000)}, interval(-200000, 200000), false},
	} {
		peak, isOpen, e := channel.Peak(x.l)
		want(t, "Peak", peak, x.peak)
		want(t, "whether it is open", isOpen, x.isOpen)
		want(t, "Peak", e, api.OK)
	}
	_, _, e := channel.Peak(make([]channel.Value, api.MaxSamples))
	want(t, "Peak of 4096", e, api.OK)
}

func TestPeakErrors(t *testing.T) {
	bad := append(badValues(),
		wrong[[]channel.Value]{[]channel.Value{under(1, 2)}, api.ErrNone},
		wrong[[]channel.Value]{[]channel.Value{under(1, 2), both(3, 4)}, api.ErrNone},
	)
	for _, x := range bad {
		peak, isOpen, e := channel.Peak(x.x)
		wantError(t, "Peak", peak, e, x.e)
		wantError(t, "whether it is open", isOpen, e, x.e)
	}
}

func TestClipped(t *testing.T) {
	for _, x := range []struct {
		l     []channel.Value
		spans []api.Span
	}{
		{[]channel.Value{value(-3, 0), value(156, 162), over(5, 900)}, []api.Span{span(2, 3)}},
		{[]channel.Value{value(-3, 0), value(0, 0)}, nil},
		{[]channel.Value{under(-3, 0), over(0, 0), both(0, 0)}, []api.Span{span(0, 3)}},
		{[]channel.Value{under(0, 0), value(0, 0), over(0, 0), over(0, 0), value(0, 0), value(0, 0), both(0, 0)}, []api.Span{span(0, 1), span(2, 4), span(6, 7)}},
		{[]channel.Value{value(0, 0), under(0, 0), value(0, 0)}, []api.Span{span(1, 2)}},
	} {
		spans, e := channel.Clipped(x.l)
		want(t, "Clipped", spans, x.spans)
		want(t, "Clipped", e, api.OK)
	}
	spans, e := channel.Clipped(make([]channel.Value, api.MaxSamples))
	want(t, "Clipped of 4096", spans, nil)
	want(t, "Clipped of 4096", e, api.OK)
	for _, bad := range badValues() {
		spans, e := channel.Clipped(bad.x)
		wantError(t, "Clipped", spans, e, bad.e)
	}
}

func TestFilled(t *testing.T) {
	for _, x := range []struct {
		l      []int
		gaps   []api.Span
		rate   int
		filled []api.Interval
	}{
		{[]int{0, 9, 9, 6}, []api.Span{span(1, 3)}, 3, []api.Interval{interval(0, 0), interval(0, 3), interval(3, 6), interval(6, 6)}},
		{[]int{0, 9, 9, 6}, []api.Span{span(1, 3)}, 2, []api.Interval{interval(0, 0), interval(2, 2), interval(4, 4), interval(6, 6)}},
		{[]int{9, 5}, []api.Span{span(0, 1)}, 3, []api.Interval{interval(2, 8), interval(5, 5)}},
		{[]int{5, 9, 9}, []api.Span{span(1, 3)}, 3, []api.Interval{interval(5, 5), interval(2, 8), interval(-1, 11)}},
		{[]int{9, 9, 5}, []api.Span{span(0, 2)}, 3, []api.Interval{interval(-1, 11), interval(2, 8), interval(5, 5)}},
		{[]int{9, 5, 9}, []api.Span{span(0, 1), span(2, 3)}, 0, []api.Interval{interval(5, 5), interval(5, 5), interval(5, 5)}},
		{[]int{0, 9, 2, 9, 0}, []api.Span{span(1, 2), span(3, 4)}, 1, []api.Interval{interval(0, 0), interval(1, 1), interval(2, 2), interval(1, 1), interval(0, 0)}},
		{[]int{0, 9, 2, 9, 0}, []api.Span{span(3, 4)}, 2, []api.Interval{interval(0, 0), interval(9, 9), interval(2, 2), interval(0, 2), interval(0, 0)}},
		{[]int{16000, 0, -16000}, []api.Span{span(1, 2)}, 16384, []api.Interval{interval(16000, 16000), interval(-384, 384), interval(-16000, -16000)}},
		{[]int{16000, 0, 0}, []api.Span{span(1, 3)}, 385, []api.Interval{interval(16000, 16000), interval(15615, 16384), interval(15230, 16384)}},
		{[]int{0, 0, -16000}, []api.Span{span(0, 2)}, 385, []api.Interval{interval(-16384, -15230), interval(-16384, -15615), interval(-16000, -16000)}},
		{[]int{1, 2}, nil, 0, []api.Interval{interval(1, 1), interval(2, 2)}},
	} {
		l, e := channel.Filled(sixteenths(x.l...), x.gaps, x.rate)
		want(t, "Filled", l, x.filled)
		want(t, "Filled", e, api.OK)
	}
	long, e := channel.Filled(make([]float32, api.MaxSamples), []api.Span{span(1, api.MaxSamples)}, 16384)
	want(t, "Filled of 4096", e, api.OK)
	want(t, "the last one", long[api.MaxSamples-1], interval(-16384, 16384))
}

func TestFilledErrors(t *testing.T) {
	for _, bad := range badRecords() {
		l, e := channel.Filled(bad.x, []api.Span{span(0, 0)}, -1)
		wantError(t, "Filled of a bad record", l, e, bad.e)
	}
	all := sixteenths(0, 0, 0, 6)
	for _, x := range []struct {
		gaps []api.Span
		rate int
		e    api.Errno
	}{
		{make([]api.Span, 33), -1, api.ErrMany},
		{make([]api.Span, 32), -1, api.ErrSpan},
		{[]api.Span{span(0, 0)}, -1, api.ErrSpan}, {[]api.Span{span(4, 4)}, -1, api.ErrSpan}, {[]api.Span{span(2, 1)}, -1, api.ErrSpan}, {[]api.Span{span(-1, 1)}, -1, api.ErrSpan}, {[]api.Span{span(3, 5)}, -1, api.ErrSpan},
		{[]api.Span{span(-9223372036854775808, 9223372036854775807)}, 0, api.ErrSpan}, {[]api.Span{span(9223372036854775807, -9223372036854775808)}, 0, api.ErrSpan},
		{[]api.Span{span(0, 1), span(1, 1)}, -1, api.ErrSpan}, {[]api.Span{span(2, 3), span(0, 5)}, -1, api.ErrSpan},
		{[]api.Span{span(0, 1), span(1, 2)}, -1, api.ErrOverlap}, {[]api.Span{span(0, 2), span(1, 3)}, -1, api.ErrOverlap}, {[]api.Span{span(2, 3), span(0, 1)}, -1, api.ErrOverlap}, {[]api.Span{span(1, 2), span(1, 2)}, -1, api.ErrOverlap},
		{[]api.Span{span(0, 1), span(1, 2), span(0, 0)}, -1, api.ErrOverlap}, {[]api.Span{span(0, 0), span(0, 1), span(1, 2)}, -1, api.ErrSpan},
		{[]api.Span{span(0, 4)}, -1, api.ErrRange}, {[]api.Span{span(1, 3)}, 16385, api.ErrRange}, {nil, -9223372036854775808, api.ErrRange},
		{[]api.Span{span(0, 4)}, 0, api.ErrEmpty},
		{[]api.Span{span(1, 3)}, 1, api.ErrConflict}, {[]api.Span{span(1, 2), span(3, 4)}, 0, api.OK}, {[]api.Span{span(0, 1), span(2, 3)}, 0, api.ErrConflict},
		{[]api.Span{span(1, 3)}, 0, api.ErrConflict}, {[]api.Span{span(2, 3)}, 2, api.ErrConflict}, {[]api.Span{span(2, 3)}, 3, api.OK},
	} {
		l, e := channel.Filled(all, x.gaps, x.rate)
		want(t, "Filled", e, x.e)
		want(t, "whether there are intervals", len(l), map[bool]int{true: 4}[x.e == api.OK])
	}
	for _, x := range []struct {
		gaps []api.Span
		rate int
		e    api.Errno
	}{{nil, 0, api.ErrEmpty}, {nil, -1, api.ErrRange}, {[]api.Span{span(0, 1)}, 0, api.ErrSpan}, {[]api.Span{span(0, 0)}, 0, api.ErrSpan}} {
		l, e := channel.Filled(nil, x.gaps, x.rate)
		wantError(t, "Filled of no samples", l, e, x.e)
	}
	// As many gaps as there may be, each of one sample.
	var gaps []api.Span
	for i := range 33 {
		gaps = append(gaps, span(2*i, 2*i+1))
	}
	l, e := channel.Filled(make([]float32, 70), gaps[:32], 0)
	want(t, "Filled of 32 gaps", []int{len(l), int(e)}, []int{70, 0})
	l, e = channel.Filled(make([]float32, 70), gaps, 0)
	wantError(t, "Filled of 33 gaps", l, e, api.ErrMany)
}

// someGaps returns gaps of n samples, at least one.
func someGaps(t *testing.T, seed uint64, n int) []api.Span {
	t.Helper()
	r := dice(seed)
	var gaps []api.Span
	for at := r.IntN(3); at < n; {
		end := min(at+between(r, 1, 4), n)
		gaps = append(gaps, span(at, end))
		at = end + between(r, 1, 4)
	}
	return gaps
}

func TestFilledByItsDefinition(t *testing.T) {
	r := dice(4)
	for seed := range uint64(500) {
		n := between(r, 1, 16)
		l, gaps, rate := some(r, n, 6), someGaps(t, seed, n), r.IntN(9)
		known := make([]bool, n)
		for i := range known {
			known[i] = true
		}
		count := n
		for _, g := range gaps {
			for i := g.From; i < g.To; i++ {
				known[i] = false
				count--
			}
		}
		var wanted []api.Interval
		e := api.OK
		for i := range n {
			x := interval(-16384, 16384)
			for before := i; before >= 0; before-- {
				if known[before] {
					x.Low, x.High = max(x.Low, l[before]-rate*(i-before)), min(x.High, l[before]+rate*(i-before))
					break
				}
			}
			for after := i; after < n; after++ {
				if known[after] {
					x.Low, x.High = max(x.Low, l[after]-rate*(after-i)), min(x.High, l[after]+rate*(after-i))
					break
				}
			}
			if x.Low > x.High {
				e = api.ErrConflict
			}
			wanted = append(wanted, x)
		}
		if count == 0 {
			e = api.ErrEmpty
		}
		if e != api.OK {
			wanted = nil
		}
		filled, got := channel.Filled(sixteenths(l...), gaps, rate)
		want(t, "Filled", filled, wanted)
		want(t, "Filled", got, e)
	}
}
