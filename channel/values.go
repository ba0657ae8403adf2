package channel

import (
	"crumple/api"
	"crumple/check"
)

// placed is a value with its index.
type placed struct {
	Value
	at int
}

// checkSize returns the first error of an interval of values, or OK.
func checkSize(x api.Interval) api.Errno {
	return check.Interval(x, -MaxSize, MaxSize)
}

func (v Value) check() api.Errno {
	return checkSize(api.Interval{Low: v.Low, High: v.High})
}

// checkSized returns the first error of intervals or of values, which are examined by a function, or OK.
func checkSized[A any](l []A, examine func(A) api.Errno) api.Errno {
	return check.First(
		check.When(len(l) == 0, api.ErrEmpty),
		check.When(len(l) > api.MaxSamples, api.ErrMany),
		check.Each(l, examine),
	)
}

// Peak returns the interval of the greatest of some values, and whether it is open.
func Peak(l []Value) (api.Interval, bool, api.Errno) {
	if e := checkSized(l, Value.check); e != api.OK {
		return api.Interval{}, false, e
	}
	peak := api.Interval{Low: -MaxSize, High: -MaxSize}
	hasLow, isOpen := false, false
	for _, v := range l {
		peak.High = max(peak.High, v.High)
		isOpen = isOpen || v.Over
		if !v.Under {
			peak.Low = max(peak.Low, v.Low)
			hasLow = true
		}
	}
	if !hasLow {
		return api.Interval{}, false, api.ErrNone
	}
	return peak, isOpen, api.OK
}

// Clipped returns the spans of values that are clipped.
func Clipped(l []Value) ([]api.Span, api.Errno) {
	if e := checkSized(l, Value.check); e != api.OK {
		return nil, e
	}
	var spans []api.Span
	for _, p := range indexed(l) {
		// A value that is not clipped has nothing but its ends.
		if p.Value != (Value{Low: p.Low, High: p.High}) {
			spans = withIndex(spans, p.at)
		}
	}
	return spans, api.OK
}

// indexed returns values with their indices.
func indexed(l []Value) []placed {
	all := make([]placed, 0, len(l))
	for i, v := range l {
		all = append(all, placed{Value: v, at: i})
	}
	return all
}

// withIndex returns ascending spans with a further index, which belongs to the last one if they touch.
func withIndex(l []api.Span, at int) []api.Span {
	if last := len(l) - 1; last >= 0 && l[last].To == at {
		l[last].To++
		return l
	}
	return append(l, api.Span{From: at, To: at + 1})
}
