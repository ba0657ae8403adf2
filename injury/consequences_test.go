package injury_test

import (
	"fmt"
	"math/big"
	"math/rand/v2"
	"slices"
	"testing"

	"crumple/api"
	"crumple/injury"
)

// P6.5 (consequences): what follows from the results, for many inputs; the dice are the same on each run.

func TestNoWindowHasAGreaterWorth(t *testing.T) {
	r := dice(10)
	for range 500 {
		l := someSeries(r, 20)
		lengths := someLengths(r, len(l))
		window, best, e := injury.Best(l, lengths)
		want(t, "Best", e, api.OK)
		for from := range l {
			for to := from + lengths.Low; to <= min(len(l), from+lengths.High); to++ {
				other := span(from, to)
				worth, e := injury.Worth(l, other)
				want(t, "Worth", e, api.OK)
				what := fmt.Sprintf("whether the window %v of %v has a greater worth than %v", other, l, window)
				want(t, what, rational(worth).Cmp(rational(best)) > 0, false)
				proof := api.ErrProof
				if other == window {
					proof = api.OK
				}
				want(t, fmt.Sprintf("CheckBest with %v for %v", other, l), injury.CheckBest(l, lengths, other, worth), proof)
			}
		}
	}
}

// within returns integers that are within a trace.
func within(r *rand.Rand, l []injury.Value) []int {
	var within []int
	for _, v := range l {
		low, high := v.Low, v.High
		if v.Under {
			low = max(-api.MaxUnit, low-one(r, []int{0, 1, 50, 2 * api.MaxUnit}))
		}
		if v.Over {
			high = min(api.MaxUnit, high+one(r, []int{0, 1, 50, 2 * api.MaxUnit}))
		}
		within = append(within, one(r, []int{low, high, between(r, low, high)}))
	}
	return within
}

// wantWithin checks that a criterion is within its bounds, and on the side of each margin that is claimed; it returns the sum of all margins, each as 1.
func wantWithin(t *testing.T, r *rand.Rand, what string, criterion api.Ratio, b injury.Bounds) int {
	t.Helper()
	size := rational(criterion)
	want(t, fmt.Sprintf("%s: whether %v is below %v", what, criterion, b), size.Cmp(rational(b.Low)) < 0, false)
	want(t, fmt.Sprintf("%s: whether %v is above %v", what, criterion, b), size.Cmp(rational(b.High)) > 0 && !b.Open, false)
	claimed := 0
	for _, limit := range []api.Ratio{b.Low, b.High, criterion, someSize(r), ratio(between(r, 0, 100), 1)} {
		margin, e := injury.Margin(b, limit)
		want(t, "Margin", e, api.OK)
		if margin != 0 {
			want(t, fmt.Sprintf("%s: the side of %v on which %v is, by %v", what, limit, criterion, b), size.Cmp(rational(limit)), margin)
			claimed++
		}
	}
	return claimed
}

func TestCriteriaAreWithinTheirBounds(t *testing.T) {
	r := dice(11)
	claimed, raised := 0, 0
	for range 3000 {
		traces := [2][]injury.Value{}
		size := between(r, 1, 10)
		for i := range traces {
			l := slices.Repeat(someSeries(r, size), size)
			traces[i] = measured(r, l[:size])
		}
		l, other := within(r, traces[0]), within(r, traces[1])
		lengths, samples := someLengths(r, size), between(r, 1, size)
		limits := [2]int{between(r, 1, 20), between(r, 1, 20)}
		what := fmt.Sprintf("%v and %v, of %v and %v", l, other, traces[0], traces[1])

		b, e := injury.BestBounds(traces[0], lengths)
		want(t, "BestBounds", e, api.OK)
		_, worth, e := injury.Best(l, lengths)
		want(t, "Best", e, api.OK)
		claimed += wantWithin(t, r, "the best window of "+what, worth, b)
		if rational(worth).Cmp(rational(b.High)) > 0 {
			raised++
		}

		b, e = injury.HeldBounds(traces[0], samples)
		want(t, "HeldBounds", e, api.OK)
		level, _, e := injury.Held(l, samples)
		want(t, "Held", e, api.OK)
		// For its bounds a level below 0 counts as 0.
		claimed += wantWithin(t, r, "the level of "+what, ratio(max(0, level), 1), b)

		b, e = injury.CombinedBounds(traces[0], traces[1], limits)
		want(t, "CombinedBounds", e, api.OK)
		sum, _, e := injury.Combined(l, other, limits)
		want(t, "Combined", e, api.OK)
		claimed += wantWithin(t, r, "the sum of "+what, sum, b)
	}
	want(t, "whether many margins are claimed", claimed > 5000, true)
	want(t, "whether some are above High, and open", raised > 100, true)
}

func TestGreaterIntegersAreNoLess(t *testing.T) {
	r := dice(12)
	for range 2000 {
		l := someSeries(r, 15)
		greater := slices.Clone(l)
		for i := range greater {
			greater[i] = min(api.MaxUnit, greater[i]+one(r, []int{0, 0, 1, 7, 900}))
		}
		lengths, samples := someLengths(r, len(l)), between(r, 1, len(l))
		what := fmt.Sprintf(" of %v and of %v", l, greater)
		_, a, e := injury.Best(l, lengths)
		want(t, "Best", e, api.OK)
		_, b, e := injury.Best(greater, lengths)
		want(t, "Best", e, api.OK)
		want(t, "whether the best worth is less"+what, rational(b).Cmp(rational(a)) < 0, false)
		level, _, e := injury.Held(l, samples)
		want(t, "Held", e, api.OK)
		next, _, e := injury.Held(greater, samples)
		want(t, "Held", e, api.OK)
		want(t, "whether the level is less"+what, next < level, false)
	}
}

func TestLevelsOfMoreSamplesAreNoGreater(t *testing.T) {
	r := dice(13)
	for range 1000 {
		l := someSeries(r, 15)
		before := slices.Max(l)
		for samples := 1; samples <= len(l); samples++ {
			level, window, e := injury.Held(l, samples)
			what := fmt.Sprintf(" of %v for %d", l, samples)
			want(t, "Held"+what, e, api.OK)
			want(t, "whether the level is greater"+what, level > before, false)
			before = level
			// From this level on as many integers are in one span, from a greater one on they are not.
			found, e := injury.Longest(l, level)
			want(t, "Longest"+what, e, api.OK)
			want(t, "whether the longest span is shorter"+what, found.To-found.From < samples, false)
			count, e := injury.Above(l, level)
			want(t, "Above"+what, e, api.OK)
			want(t, "whether fewer are above"+what, count < found.To-found.From, false)
			want(t, "the level of the window"+what, slices.Min(l[window.From:window.To]), level)
			if level < api.MaxUnit {
				found, e = injury.Longest(l, level+1)
				want(t, "Longest from the next level on"+what, e, api.OK)
				want(t, "whether it is still as long"+what, found.To-found.From >= samples, false)
			}
		}
		want(t, "the level of all", before, slices.Min(l))
	}
}

func TestMomentsAreShiftedThereAndBack(t *testing.T) {
	r := dice(14)
	for range 2000 {
		var moment, force []int
		shift := between(r, -injury.MaxShift, injury.MaxShift)
		for range between(r, 1, injury.MaxSeries) {
			// There and back both moments are those of a series.
			moment, force = append(moment, between(r, -5000, 5000)), append(force, between(r, -11, 11))
		}
		there, e := injury.Moments(moment, force, shift)
		want(t, "Moments", e, api.OK)
		back, e := injury.Moments(there, force, -shift)
		wantOK(t, "Moments there and back", back, e, moment)
	}
}

func TestMediansLieInTheMiddle(t *testing.T) {
	r := dice(15)
	for range 3000 {
		l := someSizes(r)
		median, e := injury.Median(l)
		what := fmt.Sprintf(" of %v", l)
		want(t, "Median"+what, e, api.OK)
		want(t, "whether it is one of them"+what, slices.Contains(l, median), true)
		notAbove, notBelow, same := 0, 0, 0
		for _, x := range l {
			order := rational(x).Cmp(rational(median))
			if order <= 0 {
				notAbove++
			}
			if order >= 0 {
				notBelow++
			}
			if order == 0 {
				same++
			}
		}
		want(t, "whether enough are not above, and not below"+what, 2*notAbove >= len(l) && 2*notBelow >= len(l), true)
		if same == 1 {
			want(t, "how many more are not below than not above"+what, notBelow-notAbove, (len(l)+1)%2)
		}
		ranks, e := injury.Ranked(l)
		want(t, "Ranked"+what, e, api.OK)
		want(t, "the one in the middle"+what, l[ranks[(len(l)-1)/2]], median)
	}
}

func TestGreaterSizesHaveNoLesserRisk(t *testing.T) {
	r := dice(16)
	for range 2000 {
		table, b := someTable(r), someBounds(r)
		what := fmt.Sprintf(" of %v by %v", b, table)
		both, e := injury.RiskBounds(table, b)
		want(t, "RiskBounds"+what, e, api.OK)
		want(t, "whether they are in their order"+what, both.Low <= both.High, true)
		// Whatever size is within the bounds has a risk within the interval.
		middle := new(big.Rat).Add(rational(b.Low), rational(b.High))
		size := lowest(middle.Mul(middle, big.NewRat(1, 2)))
		for _, x := range []api.Ratio{b.Low, b.High, size} {
			if x.Num > injury.MaxSize || x.Den > injury.MaxDen {
				continue
			}
			risk, e := injury.Risk(table, x)
			want(t, "Risk"+what, e, api.OK)
			want(t, fmt.Sprintf("whether the risk of %v is in %v", x, both)+what, both.Low <= risk && risk <= both.High, true)
		}
	}
}

func TestTablesAreParsedAsTheyWerePrinted(t *testing.T) {
	r := dice(17)
	for range 2000 {
		table := someTable(r)
		s, e := injury.Print(table)
		want(t, "Print", e, api.OK)
		again, i, e := injury.Parse(s)
		wantOK(t, fmt.Sprintf("Parse of %q", s), again, e, table)
		want(t, "the index of Parse", i, 0)
	}
}
