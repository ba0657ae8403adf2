package record

import (
	"slices"

	"crumple/api"
)

// CheckRing returns the first error of a ring, or OK.
func CheckRing(r Ring) api.Errno {
	return first(
		when(len(r.Samples) == 0, api.ErrEmpty),
		when(len(r.Samples) > MaxRing, api.ErrMany),
		firstError(r.Samples, CheckSample),
		within(r.Next, 0, len(r.Samples)-1),
		when(!r.Full && writtenFrom(r.Samples, r.Next), api.ErrForm),
	)
}

// writtenFrom reports whether a sample from an index on is not 0; the index may be any integer.
func writtenFrom(l []float32, from int) bool {
	for i, x := range l {
		if i >= from && x != 0 {
			return true
		}
	}
	return false
}

// Written returns a ring after samples.
func Written(r Ring, l []float32) (Ring, api.Errno) {
	if e := first(CheckRing(r), CheckSamples(l)); e != api.OK {
		return Ring{}, e
	}
	w := Ring{Samples: make([]float32, len(r.Samples)), Next: r.Next, Full: r.Full}
	copy(w.Samples, r.Samples)
	for _, x := range l {
		w.Samples[w.Next] = x
		w.Next++
		if w.Next == len(w.Samples) {
			w.Next, w.Full = 0, true
		}
	}
	return w, api.OK
}

// Unwound returns the samples of a ring, the oldest one first.
func Unwound(r Ring) ([]float32, api.Errno) {
	if e := CheckRing(r); e != api.OK {
		return nil, e
	}
	if !r.Full {
		return slices.Clone(r.Samples[:r.Next]), api.OK
	}
	return slices.Concat(r.Samples[r.Next:], r.Samples[:r.Next]), api.OK
}

// Triggered returns the samples around the first one of some absolute value, and its index.
func Triggered(l []float32, level, before, after int) ([]float32, int, api.Errno) {
	e := first(
		CheckSamples(l),
		within(level, 1, api.MaxUnit),
		within(before, 0, api.MaxSamples),
		within(after, 1, api.MaxSamples),
	)
	if e != api.OK {
		return nil, 0, e
	}
	at, ok := trigger(units(l), level, before)
	if !ok {
		return nil, 0, api.ErrNone
	}
	if len(l)-at < after {
		return nil, 0, api.ErrShort
	}
	return slices.Clone(l[at-before : at+after]), at, api.OK
}

// trigger returns the first index, not below another one, of an integer whose absolute value is at least the level.
func trigger(l []int, level, from int) (int, bool) {
	at, ok := 0, false
search:
	for i, u := range l {
		switch {
		case i < from:
			continue
		case max(u, -u) >= level:
			at, ok = i, true
			break search
		}
	}
	return at, ok
}
