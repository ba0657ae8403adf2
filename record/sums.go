package record

import "crumple/api"

// rounding makes an integer of a quotient; its divisor is above 0.
type rounding struct {
	quotient func(a, b int) int
}

// Prefixes returns the sums of the first integers of samples.
func Prefixes(l []float32) ([]int, api.Errno) {
	if e := CheckSamples(l); e != api.OK {
		return nil, e
	}
	return prefixes(units(l)), api.OK
}

func prefixes(l []int) []int {
	sums := make([]int, len(l)+1)
	for i, u := range l {
		sums[i+1] = sums[i] + u
	}
	return sums
}

// Sum returns the sum of the integers of a span of samples.
func Sum(l []float32, s api.Span) (int, api.Errno) {
	if e := first(CheckSamples(l), checkSpan(s, len(l))); e != api.OK {
		return 0, e
	}
	sums := prefixes(units(l))
	return sums[s.To] - sums[s.From], api.OK
}

// checkSpan returns ErrSpan if a span does not lie within n elements, or OK.
func checkSpan(s api.Span, n int) api.Errno {
	return when(s.From < 0 || s.To < s.From || s.To > n, api.ErrSpan)
}

// Extremes returns the extremes of samples.
func Extremes(l []float32) (Extreme, api.Errno) {
	if e := first(CheckSamples(l), when(len(l) == 0, api.ErrEmpty)); e != api.OK {
		return Extreme{}, e
	}
	all := units(l)
	x := Extreme{Low: all[0], High: all[0]}
	for i, u := range all {
		if u < x.Low {
			x.Low, x.LowAt = u, i
		}
		if u > x.High {
			x.High, x.At = u, i
		}
	}
	return x, api.OK
}

// Thinned returns every so many samples.
func Thinned(l []float32, step, from int) ([]float32, api.Errno) {
	e := first(CheckSamples(l), within(step, 1, MaxStep), within(from, 0, step-1))
	if e != api.OK {
		return nil, e
	}
	var thin []float32
	for i := from; i < len(l); i += step {
		thin = append(thin, l[i])
	}
	return thin, api.OK
}

// Stretched returns samples with others between them.
func Stretched(l []float32, step int) ([]float32, api.Errno) {
	e := first(
		CheckSamples(l),
		within(step, 1, MaxStep),
		when(len(l) == 0, api.ErrEmpty),
		when((len(l)-1)*step+1 > api.MaxSamples, api.ErrMany),
	)
	if e != api.OK {
		return nil, e
	}
	return samples(stretched(units(l), step, rounding{quotient: nearest})), api.OK
}

// stretched returns integers, at least one, with step - 1 others between each two of them.
func stretched(l []int, step int, r rounding) []int {
	var long []int
	for i := 1; i < len(l); i++ {
		for k := range step {
			long = append(long, r.quotient((step-k)*l[i-1]+k*l[i], step))
		}
	}
	return append(long, l[len(l)-1])
}

// nearest returns the integer that is nearest to a quotient, from the middle the greater one.
func nearest(a, b int) int {
	return floor(2*a+b, 2*b)
}

// floor returns the greatest integer that is not above a quotient.
func floor(a, b int) int {
	q := a / b
	if a%b < 0 {
		q--
	}
	return q
}
