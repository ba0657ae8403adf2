package injury_test

import (
	"fmt"
	"math/big"
	"slices"
	"testing"

	"crumple/api"
	"crumple/injury"
)

// P6.3 (bounds and margins): traces, their bounds and margins with ordinary inputs, at their limits, and with their errors in their order.

func TestCheckTrace(t *testing.T) {
	for _, l := range [][]injury.Value{trace(), {value(0, 0)}, {free(-api.MaxUnit, api.MaxUnit)}, {value(api.MaxUnit, api.MaxUnit), value(-api.MaxUnit, -api.MaxUnit)}, make([]injury.Value, injury.MaxSeries)} {
		want(t, fmt.Sprintf("CheckTrace of %v", l), injury.CheckTrace(l), api.OK)
	}
	for _, b := range badTraces() {
		want(t, fmt.Sprintf("CheckTrace of %v", b.x), injury.CheckTrace(b.x), b.e)
	}
}

func TestBestBounds(t *testing.T) {
	zero := ratio(0, 1)
	least := slices.Repeat([]injury.Value{value(api.MaxUnit, api.MaxUnit)}, injury.MaxSeries)
	hidden := slices.Clone(least)
	hidden[0].Under = true
	for _, x := range []struct {
		l       []injury.Value
		lengths api.Interval
		b       injury.Bounds
	}{
		{trace(), to(1, 2), opened(ratio(49, 2), ratio(81, 2))}, {[]injury.Value{value(0, 2), value(3, 5), value(4, 4)}, to(1, 2), bounds(ratio(49, 2), ratio(81, 2))}, {[]injury.Value{value(0, 2), value(3, 5), under(4, 4)}, to(1, 2), bounds(ratio(9, 1), ratio(81, 2))}, {[]injury.Value{value(0, 2), value(3, 5), free(4, 4)}, to(1, 2), opened(ratio(9, 1), ratio(81, 2))}, {trace(), to(3, 3), opened(ratio(49, 3), ratio(121, 3))}, {trace(), to(1, 1), opened(ratio(16, 1), ratio(25, 1))}, {trace(), all(), opened(ratio(49, 2), ratio(81, 2))},
		// Only windows without a value that may be less count for Low, but all of them for High.
		{[]injury.Value{value(0, 2), under(3, 5), value(4, 4)}, to(1, 2), bounds(ratio(16, 1), ratio(81, 2))}, {[]injury.Value{value(0, 2), under(3, 5), value(4, 4)}, to(2, 2), bounds(zero, ratio(81, 2))}, {[]injury.Value{under(0, 2), value(3, 5), value(4, 4)}, to(2, 3), bounds(ratio(49, 2), ratio(81, 2))}, {[]injury.Value{under(9, 9)}, all(), bounds(zero, ratio(81, 1))}, {[]injury.Value{under(9, 9), under(8, 8), value(1, 1)}, to(1, 1), bounds(ratio(1, 1), ratio(81, 1))}, {[]injury.Value{value(5, 5), under(9, 9), value(5, 5)}, to(3, 3), bounds(zero, ratio(361, 3))}, {[]injury.Value{value(5, 5), under(9, 9), value(6, 6)}, to(1, 3), bounds(ratio(36, 1), ratio(400, 3))}, {[]injury.Value{under(0, 7), under(9, 9)}, to(2, 2), bounds(zero, ratio(128, 1))},
		// Nothing is above 0, or only High is.
		{[]injury.Value{value(-3, -1), over(-3, -1)}, all(), opened(zero, zero)}, {[]injury.Value{value(-3, 0)}, all(), bounds(zero, zero)}, {[]injury.Value{value(-3, 4), value(-9, 1)}, to(2, 2), bounds(zero, ratio(25, 2))}, {[]injury.Value{over(-9, -9), value(7, 7)}, to(1, 1), opened(ratio(49, 1), ratio(49, 1))},
		{least, all(), bounds(ratio(34359738368, 1), ratio(34359738368, 1))}, {hidden, all(), bounds(ratio(127*268435456, 1), ratio(34359738368, 1))}, {hidden, to(128, 128), bounds(zero, ratio(34359738368, 1))}, {make([]injury.Value, injury.MaxSeries), all(), bounds(zero, zero)},
	} {
		b, e := injury.BestBounds(x.l, x.lengths)
		wantOK(t, fmt.Sprintf("BestBounds of %v for %v", x.l, x.lengths), b, e, x.b)
	}
}

func TestHeldBounds(t *testing.T) {
	whole := func(low, high int) injury.Bounds { return bounds(ratio(low, 1), ratio(high, 1)) }
	open := func(low, high int) injury.Bounds { return opened(ratio(low, 1), ratio(high, 1)) }
	for _, x := range []struct {
		l       []injury.Value
		samples int
		b       injury.Bounds
	}{
		{trace(), 1, open(4, 5)}, {trace(), 2, open(3, 4)}, {trace(), 3, open(0, 2)}, {[]injury.Value{value(1, 2), value(3, 5), value(4, 4)}, 3, whole(1, 2)},
		{[]injury.Value{value(1, 2), value(3, 5), under(4, 4)}, 1, whole(3, 5)}, {[]injury.Value{value(1, 2), value(3, 5), under(4, 4)}, 2, whole(1, 4)}, {[]injury.Value{value(1, 2), value(3, 5), under(4, 4)}, 3, whole(0, 2)}, {[]injury.Value{value(1, 2), value(3, 5), free(4, 4)}, 2, open(1, 4)}, {[]injury.Value{value(5, 5), under(9, 9), value(5, 5)}, 2, whole(0, 5)}, {[]injury.Value{under(9, 9)}, 1, whole(0, 9)},
		// A level below 0 counts as 0.
		{[]injury.Value{value(-5, -3)}, 1, whole(0, 0)}, {[]injury.Value{over(-5, -3)}, 1, open(0, 0)}, {[]injury.Value{value(-5, 3), value(-2, 4)}, 2, whole(0, 3)}, {[]injury.Value{value(-5, 3), value(-2, 4)}, 1, whole(0, 4)}, {[]injury.Value{value(0, 0), over(-api.MaxUnit, 1)}, 2, open(0, 0)},
		{slices.Repeat([]injury.Value{value(api.MaxUnit, api.MaxUnit)}, injury.MaxSeries), 128, whole(api.MaxUnit, api.MaxUnit)}, {slices.Repeat([]injury.Value{free(api.MaxUnit, api.MaxUnit)}, injury.MaxSeries), 1, open(0, api.MaxUnit)},
	} {
		b, e := injury.HeldBounds(x.l, x.samples)
		wantOK(t, fmt.Sprintf("HeldBounds of %v for %d", x.l, x.samples), b, e, x.b)
	}
}

func TestCombinedBounds(t *testing.T) {
	none := []injury.Value{value(0, 0)}
	full := slices.Repeat([]injury.Value{value(-api.MaxUnit, -api.MaxUnit)}, injury.MaxSeries)
	for _, x := range []struct {
		a, b   []injury.Value
		limits [2]int
		bounds injury.Bounds
	}{
		{[]injury.Value{value(3, 4)}, []injury.Value{value(-7, -5)}, [2]int{2, 10}, bounds(ratio(2, 1), ratio(27, 10))}, {[]injury.Value{value(3, 4)}, []injury.Value{value(-7, -5)}, [2]int{10, 2}, bounds(ratio(14, 5), ratio(39, 10))}, {[]injury.Value{value(-3, 4)}, none, [2]int{1, 1}, bounds(ratio(0, 1), ratio(4, 1))}, {[]injury.Value{value(-5, 4)}, none, [2]int{1, 1}, bounds(ratio(0, 1), ratio(5, 1))}, {[]injury.Value{value(-5, 0)}, none, [2]int{1, 1}, bounds(ratio(0, 1), ratio(5, 1))},
		// Low and High may be at different indices.
		{[]injury.Value{value(3, 4), value(0, 9)}, []injury.Value{value(0, 0), value(0, 0)}, [2]int{1, 1}, bounds(ratio(3, 1), ratio(9, 1))}, {[]injury.Value{value(3, 3), value(0, 0)}, []injury.Value{value(0, 0), value(4, 4)}, [2]int{1, 1}, bounds(ratio(4, 1), ratio(4, 1))},
		// What is open on the side of 0 may be as little as 0, what is open on the other one may not.
		{[]injury.Value{under(3, 4)}, none, [2]int{1, 1}, opened(ratio(0, 1), ratio(4, 1))}, {[]injury.Value{over(3, 4)}, none, [2]int{1, 1}, opened(ratio(3, 1), ratio(4, 1))}, {[]injury.Value{free(3, 4)}, none, [2]int{1, 1}, opened(ratio(0, 1), ratio(4, 1))}, {[]injury.Value{over(-4, -3)}, none, [2]int{1, 1}, opened(ratio(0, 1), ratio(4, 1))}, {[]injury.Value{under(-4, -3)}, none, [2]int{1, 1}, opened(ratio(3, 1), ratio(4, 1))}, {[]injury.Value{free(-4, -3)}, none, [2]int{1, 1}, opened(ratio(0, 1), ratio(4, 1))},
		{none, []injury.Value{under(3, 4)}, [2]int{1, 2}, opened(ratio(0, 1), ratio(2, 1))}, {none, []injury.Value{over(3, 4)}, [2]int{1, 2}, opened(ratio(3, 2), ratio(2, 1))}, {none, []injury.Value{under(-4, -3)}, [2]int{1, 2}, opened(ratio(3, 2), ratio(2, 1))}, {none, []injury.Value{over(-4, -3)}, [2]int{1, 2}, opened(ratio(0, 1), ratio(2, 1))}, {none, []injury.Value{over(0, 0)}, [2]int{1, 2}, opened(ratio(0, 1), ratio(0, 1))},
		{[]injury.Value{value(5, 5), under(1, 1)}, []injury.Value{value(0, 0), value(0, 0)}, [2]int{1, 1}, opened(ratio(5, 1), ratio(5, 1))},
		{full, full, [2]int{1, 1}, bounds(ratio(2*api.MaxUnit, 1), ratio(2*api.MaxUnit, 1))}, {[]injury.Value{value(1, 1)}, []injury.Value{value(1, 1)}, [2]int{1000, 999}, bounds(ratio(1999, 999000), ratio(1999, 999000))},
	} {
		b, e := injury.CombinedBounds(x.a, x.b, x.limits)
		wantOK(t, fmt.Sprintf("CombinedBounds of %v and %v by %v", x.a, x.b, x.limits), b, e, x.bounds)
	}
}

func TestMargin(t *testing.T) {
	low, high := ratio(49, 2), ratio(81, 2)
	for _, x := range []struct {
		b      injury.Bounds
		limit  api.Ratio
		margin int
	}{
		{bounds(low, high), ratio(41, 1), -1}, {bounds(low, high), ratio(24, 1), 1}, {bounds(low, high), ratio(40, 1), 0}, {opened(low, high), ratio(41, 1), 0}, {opened(low, high), ratio(24, 1), 1}, {opened(low, high), ratio(40, 1), 0},
		// At both ends it is open on which side the criterion is.
		{bounds(low, high), low, 0}, {bounds(low, high), high, 0}, {bounds(low, high), ratio(25, 1), 0}, {opened(low, high), low, 0}, {opened(low, high), high, 0}, {bounds(low, low), low, 0}, {bounds(low, low), ratio(99, 4), -1}, {bounds(low, low), ratio(97, 4), 1}, {opened(low, low), ratio(99, 4), 0},
		{bounds(ratio(0, 1), ratio(0, 1)), ratio(0, 1), 0}, {bounds(ratio(0, 1), ratio(0, 1)), ratio(1, injury.MaxDen), -1}, {bounds(ratio(1, injury.MaxDen), ratio(1, injury.MaxDen)), ratio(0, 1), 1}, {bounds(ratio(injury.MaxSize, 1), ratio(injury.MaxSize, 1)), ratio(injury.MaxSize-1, injury.MaxDen-1), 1}, {bounds(ratio(0, 1), ratio(injury.MaxSize, 1)), ratio(injury.MaxSize, 1), 0}, {bounds(ratio(0, 1), ratio(injury.MaxSize-1, 1)), ratio(injury.MaxSize, 1), -1},
		// Only the products tell these from each other.
		{bounds(least, least), greatest, -1}, {bounds(greatest, greatest), least, 1}, {bounds(least, greatest), least, 0}, {bounds(least, greatest), greatest, 0}, {opened(least, least), greatest, 0},
	} {
		margin, e := injury.Margin(x.b, x.limit)
		wantOK(t, fmt.Sprintf("Margin of %v for %v", x.b, x.limit), margin, e, x.margin)
	}
}

func TestTraceErrors(t *testing.T) {
	good := []injury.Value{value(1, 2), over(3, 3), value(0, 1)}
	for _, x := range badTraces() {
		what := fmt.Sprintf(" of %v", x.x)
		for _, lengths := range []api.Interval{to(1, 1), to(0, 0), to(128, 128)} {
			b, e := injury.BestBounds(x.x, lengths)
			wantError(t, "BestBounds"+what, b, e, x.e)
		}
		for _, samples := range []int{1, 0, 128} {
			b, e := injury.HeldBounds(x.x, samples)
			wantError(t, "HeldBounds"+what, b, e, x.e)
		}
		for _, limits := range [][2]int{{1, 1}, {0, 0}} {
			for _, other := range [][]injury.Value{good, good[:1], nil, {value(1, 0)}, {value(far[0], 0)}} {
				b, e := injury.CombinedBounds(x.x, other, limits)
				wantError(t, "CombinedBounds"+what, b, e, x.e)
			}
			for _, first := range [][]injury.Value{good, good[:1]} {
				b, e := injury.CombinedBounds(first, x.x, limits)
				wantError(t, "CombinedBounds, the second one,"+what, b, e, x.e)
			}
			b, e := injury.CombinedBounds(good, good[1:], limits)
			wantError(t, "CombinedBounds of different lengths", b, e, api.ErrShape)
			b, e = injury.CombinedBounds(good[1:], good, limits)
			wantError(t, "CombinedBounds of different lengths", b, e, api.ErrShape)
		}
	}
	for _, x := range badLengths() {
		b, e := injury.BestBounds(good, x.x)
		wantError(t, fmt.Sprintf("BestBounds for %v", x.x), b, e, x.e)
	}
	for _, lengths := range []api.Interval{to(4, 4), to(4, 128), to(128, 128)} {
		b, e := injury.BestBounds(good, lengths)
		wantError(t, fmt.Sprintf("BestBounds for %v", lengths), b, e, api.ErrShort)
	}
	for _, samples := range outside(1, injury.MaxSeries) {
		b, e := injury.HeldBounds(good, samples)
		wantError(t, fmt.Sprintf("HeldBounds for %d", samples), b, e, api.ErrRange)
	}
	for _, samples := range []int{4, 5, injury.MaxSeries} {
		b, e := injury.HeldBounds(good, samples)
		wantError(t, fmt.Sprintf("HeldBounds for %d", samples), b, e, api.ErrShort)
	}
	for _, limits := range badLimits() {
		b, e := injury.CombinedBounds(good, good, limits)
		wantError(t, fmt.Sprintf("CombinedBounds by %v", limits), b, e, api.ErrRange)
	}
}

func TestMarginErrors(t *testing.T) {
	for _, b := range badBounds() {
		for _, limit := range []api.Ratio{ratio(1, 1), ratio(2, 2), ratio(0, 0)} {
			margin, e := injury.Margin(b.x, limit)
			wantError(t, fmt.Sprintf("Margin of %v for %v", b.x, limit), margin, e, b.e)
		}
	}
	for _, b := range badSizes() {
		margin, e := injury.Margin(bounds(ratio(1, 1), ratio(2, 1)), b.x)
		wantError(t, fmt.Sprintf("Margin for %v", b.x), margin, e, b.e)
	}
}

// isUnder and isOver report whether a value may be less, or greater.
func isUnder(v injury.Value) bool { return v.Under }

func isOver(v injury.Value) bool { return v.Over }

// ends returns all Low and all High of a trace.
func ends(l []injury.Value) ([]int, []int) {
	var lows, highs []int
	for _, v := range l {
		lows, highs = append(lows, v.Low), append(highs, v.High)
	}
	return lows, highs
}

// slowBestBounds returns the bounds of the best window, by their definition.
func slowBestBounds(l []injury.Value, lengths api.Interval) injury.Bounds {
	lows, highs := ends(l)
	low := new(big.Rat)
	for from := range l {
		for to := from + lengths.Low; to <= min(len(l), from+lengths.High); to++ {
			worth := slowWorth(lows[from:to])
			if !slices.ContainsFunc(l[from:to], isUnder) && worth.Cmp(low) > 0 {
				low = worth
			}
		}
	}
	_, high := slowBest(highs, lengths)
	return injury.Bounds{Low: lowest(low), High: lowest(high), Open: slices.ContainsFunc(l, isOver)}
}

// slowHeldBounds returns the bounds of the level that is held, by their definition.
func slowHeldBounds(l []injury.Value, samples int) injury.Bounds {
	lows, highs := ends(l)
	low := 0
	for _, level := range lows {
		for from := range len(l) - samples + 1 {
			is := holds(lows, span(from, from+samples), level) && !slices.ContainsFunc(l[from:from+samples], isUnder)
			if is && level > low {
				low = level
			}
		}
	}
	high, _ := slowHeld(highs, samples)
	return injury.Bounds{Low: ratio(low, 1), High: ratio(max(0, high), 1), Open: slices.ContainsFunc(l, isOver)}
}

// absolutes returns the least and the greatest absolute value of a value, by all integers; what is open counts for the least one alone.
func absolutes(v injury.Value) (int, int) {
	low, high := v.Low, v.High
	if v.Under {
		low = min(low, 0)
	}
	if v.Over {
		high = max(high, 0)
	}
	least, greatest := api.MaxUnit, 0
	for x := low; x <= high; x++ {
		least = min(least, max(x, -x))
		if x >= v.Low && x <= v.High {
			greatest = max(greatest, x, -x)
		}
	}
	return least, greatest
}

func TestBoundsByTheirDefinitions(t *testing.T) {
	r := dice(5)
	opened := 0
	for range 3000 {
		l := measured(r, someSeries(r, 12))
		lengths, samples := someLengths(r, len(l)), between(r, 1, len(l))
		b, e := injury.BestBounds(l, lengths)
		wantOK(t, fmt.Sprintf("BestBounds of %v for %v", l, lengths), b, e, slowBestBounds(l, lengths))
		b, e = injury.HeldBounds(l, samples)
		wantOK(t, fmt.Sprintf("HeldBounds of %v for %d", l, samples), b, e, slowHeldBounds(l, samples))
		if b.Open {
			opened++
		}
		other := slices.Clone(l)
		r.Shuffle(len(l), func(i, j int) { other[i], other[j] = other[j], other[i] })
		limits := [2]int{between(r, 1, 12), between(r, 1, 12)}
		var least, greatest [2][]int
		for i := range l {
			for j, v := range []injury.Value{l[i], other[i]} {
				low, high := absolutes(v)
				least[j], greatest[j] = append(least[j], low), append(greatest[j], high)
			}
		}
		low, _ := slowCombined(least[0], least[1], limits)
		high, _ := slowCombined(greatest[0], greatest[1], limits)
		open := slices.ContainsFunc(l, isUnder) || slices.ContainsFunc(l, isOver)
		b, e = injury.CombinedBounds(l, other, limits)
		wantOK(t, fmt.Sprintf("CombinedBounds of %v and %v by %v", l, other, limits), b, e, injury.Bounds{Low: lowest(low), High: lowest(high), Open: open})
	}
	want(t, "whether there were both", opened > 300 && opened < 2700, true)
}

func TestMarginsByAllProducts(t *testing.T) {
	r := dice(6)
	counts := map[int]int{}
	for range 5000 {
		b, limit := someBounds(r), someSize(r)
		wanted := 0
		switch {
		case !b.Open && rational(b.High).Cmp(rational(limit)) < 0:
			wanted = -1
		case rational(b.Low).Cmp(rational(limit)) > 0:
			wanted = 1
		}
		margin, e := injury.Margin(b, limit)
		wantOK(t, fmt.Sprintf("Margin of %v for %v", b, limit), margin, e, wanted)
		counts[wanted]++
	}
	want(t, "whether there were all", counts[-1] > 500 && counts[0] > 500 && counts[1] > 500, true)
}
