package channel

import (
	"crumple/api"
	"crumple/check"
	"crumple/record"
)

// checkGaps returns the first error of the gaps of n samples, or OK.
func checkGaps(gaps []api.Span, n int) api.Errno {
	// No gap within the record begins as early as this.
	end := -1
	return check.First(
		check.When(len(gaps) > MaxGaps, api.ErrMany),
		check.Each(gaps, func(g api.Span) api.Errno {
			e := check.First(
				check.When(g.From < 0 || g.To <= g.From || g.To > n, api.ErrSpan),
				check.When(g.From <= end, api.ErrOverlap),
			)
			end = g.To
			return e
		}),
	)
}

// missing returns the number of samples in gaps.
func missing(gaps []api.Span) int {
	n := 0
	for _, g := range gaps {
		n += g.To - g.From
	}
	return n
}

// Filled returns the intervals of a record with gaps.
func Filled(l []float32, gaps []api.Span, rate int) ([]api.Interval, api.Errno) {
	e := check.First(
		record.CheckSamples(l),
		checkGaps(gaps, len(l)),
		check.Within(rate, 0, api.MaxUnit),
		check.When(missing(gaps) == len(l), api.ErrEmpty),
	)
	if e != api.OK {
		return nil, e
	}
	all := units(l)
	filled := make([]api.Interval, 0, len(l))
	for i := range len(l) {
		x := reached(all, neighbours(gaps, i), i, rate)
		if x.Low > x.High {
			return nil, api.ErrConflict
		}
		filled = append(filled, x)
	}
	return filled, api.OK
}

// neighbours returns the last index up to another one, and the first one from it on, that are in no gap; they may be beyond the ends of the record.
func neighbours(gaps []api.Span, i int) [2]int {
	known := [2]int{i, i}
search:
	for _, g := range gaps {
		switch {
		case g.To <= i:
			continue
		case g.From <= i:
			known = [2]int{g.From - 1, g.To}
		}
		break search
	}
	return known
}

// reached returns the integers at an index that are near enough to those at the indices that are known; there may be none.
func reached(l []int, known [2]int, i, rate int) api.Interval {
	x := api.Interval{Low: -api.MaxUnit, High: api.MaxUnit}
	for _, at := range known {
		if at < 0 || at >= len(l) {
			continue
		}
		far := rate * max(i-at, at-i)
		x.Low = max(x.Low, l[at]-far)
		x.High = min(x.High, l[at]+far)
	}
	return x
}
