package record_test

import (
	"slices"
	"testing"

	"crumple/api"
	"crumple/record"
)

// P1.5 (consequences): what follows from the results, for many inputs; the dice are the same on each run.

func TestRingHasTheLastSamples(t *testing.T) {
	r := dice(2)
	for range 300 {
		size := 1 + r.IntN(20)
		state := record.Ring{Samples: make([]float32, size)}
		var all []float32
		for range r.IntN(6) {
			l := someSamples(r, r.IntN(15), api.MaxUnit)
			all = append(all, l...)
			var e api.Errno
			state, e = record.Written(state, l)
			want(t, "Written", e, api.OK)
			want(t, "a ring that is written", record.CheckRing(state), api.OK)
		}
		l, e := record.Unwound(state)
		want(t, "the last samples", l, all[max(0, len(all)-size):])
		want(t, "Unwound", e, api.OK)
	}
}

func TestTriggerIsWhereItWasAskedFor(t *testing.T) {
	r := dice(3)
	for range 500 {
		l := someSamples(r, r.IntN(30), 50)
		level, before, after := 1+r.IntN(55), r.IntN(8), 1+r.IntN(8)
		cut, at, e := record.Triggered(l, level, before, after)
		first := slices.IndexFunc(l[min(before, len(l)):], func(x float32) bool { return max(integer(x), -integer(x)) >= level }) + before
		switch {
		case first < before:
			want(t, "no trigger", e, api.ErrNone)
		case first+after > len(l):
			want(t, "a trigger too late", e, api.ErrShort)
		default:
			want(t, "a trigger", e, api.OK)
			want(t, "its index", at, first)
			want(t, "its record", cut, l[first-before:first+after])
			want(t, "its sample", cut[before], l[at])
		}
	}
}

func TestSumIsTheDifferenceOfPrefixes(t *testing.T) {
	r := dice(4)
	for range 300 {
		l := someSamples(r, 1+r.IntN(40), api.MaxUnit)
		from := r.IntN(len(l) + 1)
		to := from + r.IntN(len(l)-from+1)
		sum := 0
		for _, x := range l[from:to] {
			sum += integer(x)
		}
		prefixes, _ := record.Prefixes(l)
		got, e := record.Sum(l, api.Span{From: from, To: to})
		want(t, "Sum", got, sum)
		want(t, "Sum", e, api.OK)
		want(t, "the difference", prefixes[to]-prefixes[from], sum)
	}
}

func TestStretchedAndThinnedIsAsItWas(t *testing.T) {
	r := dice(5)
	for range 300 {
		l := someSamples(r, 1+r.IntN(20), 40)
		step := 1 + r.IntN(record.MaxStep)
		long, e := record.Stretched(l, step)
		want(t, "Stretched", e, api.OK)
		thin, e := record.Thinned(long, step, 0)
		want(t, "thinned again", thin, l)
		want(t, "thinned again", e, api.OK)
		for i, x := range long {
			a, b := l[i/step], l[min(i/step+1, len(l)-1)]
			if x < min(a, b) || x > max(a, b) {
				t.Errorf("%v does not lie between %v and %v", x, a, b)
			}
			// The nearest integer is at most a half away, and greater than the exact one if it is a half.
			k := i % step
			off := step*integer(x) - ((step-k)*integer(a) + k*integer(b))
			if 2*off > step || 2*off <= -step {
				t.Errorf("%v is not the nearest, %d of %d steps from %v to %v", x, k, step, a, b)
			}
		}
	}
}

func TestSamplesComeBackFromTheirTransform(t *testing.T) {
	r := dice(6)
	for range 500 {
		l := [4]float32(someSamples(r, 4, api.MaxUnit))
		p, e := record.Four(l)
		want(t, "Four", e, api.OK)
		again, e := record.Unfour(p)
		want(t, "Unfour", again, l)
		want(t, "Unfour", e, api.OK)
		p[r.IntN(4)] += complex(0.0625, 0)
		_, e = record.Unfour(p)
		want(t, "Unfour of what is no transform", e, api.ErrForm)
	}
}

func TestSamplesComeBackFromStreamsAndStrings(t *testing.T) {
	r := dice(7)
	for _, n := range []int{0, 1, 2, 17, 255, 256, 257, 4096} {
		l := someSamples(r, n, api.MaxUnit)
		s, _ := record.Pack(l)
		again, e := record.Unpack(s)
		want(t, "Unpack", again, l)
		want(t, "Unpack", e, api.OK)
		text, e := record.Print(l)
		if e == api.OK {
			again, at, e := record.Parse(text)
			want(t, "Parse", again, l)
			want(t, "Parse", at, 0)
			want(t, "Parse", e, api.OK)
		}
	}
}

func TestFramesComeBackAlsoAfterOtherBytes(t *testing.T) {
	r := dice(8)
	key := someKey()
	for range 100 {
		var s []byte
		var l []record.Frame
		var skipped []api.Span
		for counter := range r.IntN(12) {
			junk := r.IntN(40) * r.IntN(2)
			if junk > 0 {
				skipped = append(skipped, api.Span{From: len(s), To: len(s) + junk})
			}
			for range junk {
				s = append(s, byte(r.IntN(211)))
			}
			n := r.IntN(record.Values + 1)
			f := framed(r.IntN(256), counter, n, someSamples(r, n, api.MaxUnit)...)
			b, e := record.Encode(key, f)
			want(t, "Encode", e, api.OK)
			again, e := record.Decode(key, b)
			want(t, "Decode", again, f)
			want(t, "Decode", e, api.OK)
			s, l = append(s, b[:]...), append(l, f)
		}
		got, spans, e := record.Received(key, s)
		want(t, "Received", got, l)
		want(t, "what is skipped", spans, skipped)
		want(t, "Received", e, api.OK)
	}
}

func TestFramesPutTogetherGiveTheRecord(t *testing.T) {
	r := dice(9)
	key := someKey()
	for range 100 {
		l := someSamples(r, r.IntN(100), api.MaxUnit)
		n := len(l)
		wanted := slices.Clone(l)
		gone := make([]bool, n)
		var s []byte
		for at := 0; at < n; at += record.Values {
			chunk := l[at:min(at+record.Values, n)]
			b, _ := record.Encode(key, framed(7, at/record.Values, len(chunk), chunk...))
			if r.IntN(3) == 0 {
				b[r.IntN(record.Size)]++
				for i := range chunk {
					wanted[at+i], gone[at+i] = 0, true
				}
			}
			s = append(s, b[:]...)
		}
		frames, _, _ := record.Received(key, s)
		got, missing, e := record.Assembled(frames, 7, n)
		want(t, "Assembled", got, wanted)
		want(t, "Assembled", e, api.OK)
		for i, span := range missing {
			if span.From >= span.To || i > 0 && span.From <= missing[i-1].To {
				t.Errorf("the spans %v touch, or are empty", missing)
			}
			for at := span.From; at < span.To; at++ {
				want(t, "what is missing", gone[at], true)
				gone[at] = false
			}
		}
		want(t, "what else is missing", slices.Contains(gone, true), false)
	}
}

func TestSealsDiffer(t *testing.T) {
	r := dice(10)
	for range 300 {
		s := make([]byte, 1+r.IntN(40))
		for i := range s {
			s[i] = byte(r.IntN(256))
		}
		var key api.Key
		for j := range key {
			key[j] = byte(r.IntN(256))
		}
		seal, _ := record.Seal(key, s)
		other := slices.Clone(s)
		other[r.IntN(len(s))] += byte(1 + r.IntN(255))
		changed, _ := record.Seal(key, other)
		for j := range seal {
			if seal[j] == changed[j] {
				t.Errorf("the byte %d of the seals of %v and %v is the same", j, s, other)
			}
		}
		key[r.IntN(8)]++
		if byKey, _ := record.Seal(key, s); byKey == seal {
			t.Errorf("two keys have the same seal of %v", s)
		}
	}
}
