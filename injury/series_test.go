package injury_test

import (
	"fmt"
	"math/big"
	"slices"
	"testing"

	"crumple/api"
	"crumple/injury"
)

// P6.1 (windows): series and their best windows with ordinary inputs, at their limits, and with their errors in their order.

func TestCheckSeries(t *testing.T) {
	for _, l := range [][]int{series(), {0}, {api.MaxUnit}, {-api.MaxUnit}, {-api.MaxUnit, api.MaxUnit, 7}, make([]int, injury.MaxSeries), slices.Repeat([]int{-api.MaxUnit}, injury.MaxSeries)} {
		want(t, fmt.Sprintf("CheckSeries of %v", l), injury.CheckSeries(l), api.OK)
	}
	for _, b := range badSeries() {
		want(t, fmt.Sprintf("CheckSeries of %v", b.x), injury.CheckSeries(b.x), b.e)
	}
}

func TestWorth(t *testing.T) {
	full := slices.Repeat([]int{api.MaxUnit}, injury.MaxSeries)
	nearly := slices.Clone(full)
	nearly[126]--
	for _, x := range []struct {
		l      []int
		window api.Span
		worth  api.Ratio
	}{
		{series(), span(1, 3), ratio(81, 2)}, {series(), span(3, 4), ratio(0, 1)}, {series(), span(4, 6), ratio(72, 1)}, {series(), span(3, 6), ratio(100, 3)}, {series(), span(1, 6), ratio(361, 5)}, {series(), span(0, 6), ratio(200, 3)},
		{series(), span(0, 1), ratio(1, 1)}, {series(), span(5, 6), ratio(36, 1)}, {series(), span(0, 5), ratio(196, 5)}, {series(), span(2, 4), ratio(9, 2)}, {series(), span(0, 2), ratio(25, 2)},
		// A sum that is 0, or below, has no worth, whatever its square.
		{[]int{-3, 2, 1}, span(0, 3), ratio(0, 1)}, {[]int{-3, 2, 1}, span(0, 2), ratio(0, 1)}, {[]int{-3, 2, 1}, span(0, 1), ratio(0, 1)}, {[]int{-3, 2, 1}, span(1, 3), ratio(9, 2)}, {[]int{0}, span(0, 1), ratio(0, 1)}, {[]int{-api.MaxUnit}, span(0, 1), ratio(0, 1)}, {[]int{0, 0, 0}, span(0, 3), ratio(0, 1)},
		{[]int{4, 2}, span(0, 2), ratio(18, 1)}, {[]int{1, 1, 1, 1, 1, 1}, span(0, 6), ratio(6, 1)}, {[]int{5, 1, 0, 0}, span(0, 4), ratio(9, 1)}, {[]int{1, 0, 0, 0, 0, 2}, span(0, 6), ratio(3, 2)},
		{full, span(0, injury.MaxSeries), ratio(34359738368, 1)}, {full, span(127, 128), ratio(268435456, 1)}, {nearly, span(0, 127), ratio(4329591308289, 127)}, {nearly, span(1, 128), ratio(4329591308289, 127)},
	} {
		worth, e := injury.Worth(x.l, x.window)
		wantOK(t, fmt.Sprintf("Worth of %v in %v", x.window, x.l), worth, e, x.worth)
	}
}

func TestBest(t *testing.T) {
	full := slices.Repeat([]int{api.MaxUnit}, injury.MaxSeries)
	for _, x := range []struct {
		l       []int
		lengths api.Interval
		window  api.Span
		worth   api.Ratio
	}{
		{series(), to(1, 3), span(4, 6), ratio(72, 1)}, {series(), to(1, 6), span(1, 6), ratio(361, 5)}, {series(), all(), span(1, 6), ratio(361, 5)}, {series(), to(1, 1), span(4, 5), ratio(36, 1)}, {series(), to(3, 3), span(0, 3), ratio(100, 3)}, {series(), to(2, 2), span(4, 6), ratio(72, 1)}, {series(), to(4, 4), span(2, 6), ratio(225, 4)}, {series(), to(5, 5), span(1, 6), ratio(361, 5)}, {series(), to(6, 6), span(0, 6), ratio(200, 3)}, {series(), to(6, 128), span(0, 6), ratio(200, 3)}, {series(), to(3, 4), span(2, 6), ratio(225, 4)},
		{[]int{7}, to(1, 1), span(0, 1), ratio(49, 1)}, {[]int{-7}, all(), span(0, 1), ratio(0, 1)},
		// No window has a worth: the first one, and the shortest one, of these lengths.
		{[]int{-1, -2, 0, -3}, all(), span(0, 1), ratio(0, 1)}, {[]int{-1, -2, 0, -3}, to(2, 3), span(0, 2), ratio(0, 1)}, {[]int{0, 0, 0}, to(3, 3), span(0, 3), ratio(0, 1)},
		{[]int{-100, 1, -100}, all(), span(1, 2), ratio(1, 1)}, {[]int{-100, -99, 1}, to(2, 3), span(0, 2), ratio(0, 1)},
		// Of several with the same worth the least From, and then the least To, counts.
		{[]int{4, 0, 0, 4}, to(1, 1), span(0, 1), ratio(16, 1)}, {[]int{2, 0, 0, 2}, to(1, 4), span(0, 1), ratio(4, 1)}, {[]int{2, 0, 0, 2}, to(2, 4), span(0, 4), ratio(4, 1)}, {[]int{1, 1, 1, 1, -9, 2}, all(), span(0, 4), ratio(4, 1)}, {[]int{1, -5, 1, -5, 1}, all(), span(0, 1), ratio(1, 1)}, {[]int{-1, 3, -1, 3, -1}, to(1, 1), span(1, 2), ratio(9, 1)}, {[]int{3, 3, 3, 3}, to(2, 2), span(0, 2), ratio(18, 1)}, {[]int{0, 5, 0, 5}, to(2, 2), span(0, 2), ratio(25, 2)}, {[]int{-2, 2, 0, 0, 2, -2}, all(), span(1, 2), ratio(4, 1)},
		{full, all(), span(0, 128), ratio(34359738368, 1)}, {full, to(1, 127), span(0, 127), ratio(127*268435456, 1)}, {full, to(127, 127), span(0, 127), ratio(127*268435456, 1)}, {full, to(128, 128), span(0, 128), ratio(34359738368, 1)},
	} {
		window, worth, e := injury.Best(x.l, x.lengths)
		what := fmt.Sprintf(" of %v for %v", x.l, x.lengths)
		wantOK(t, "Best"+what, rated{window, worth}, e, rated{x.window, x.worth})
		want(t, "CheckBest"+what, injury.CheckBest(x.l, x.lengths, x.window, x.worth), api.OK)
	}
}

func TestOnlyTheBestWindowIsProved(t *testing.T) {
	for _, x := range []struct {
		l       []int
		lengths api.Interval
		window  api.Span
		worth   api.Ratio
	}{
		{series(), to(1, 3), span(1, 3), ratio(81, 2)}, {series(), to(1, 3), span(4, 6), ratio(71, 1)}, {series(), to(1, 3), span(4, 6), ratio(73, 1)}, {series(), to(1, 3), span(4, 6), ratio(0, 1)}, {series(), to(1, 3), span(3, 6), ratio(72, 1)}, {series(), to(1, 3), span(5, 6), ratio(72, 1)}, {series(), to(1, 3), span(4, 5), ratio(36, 1)},
		// The best one of all, but none of these lengths.
		{series(), to(1, 3), span(1, 6), ratio(361, 5)}, {series(), to(6, 6), span(1, 6), ratio(361, 5)}, {series(), to(1, 6), span(0, 6), ratio(200, 3)}, {series(), to(1, 6), span(1, 6), ratio(72, 1)}, {series(), to(1, 6), span(1, 6), ratio(361, 4)},
		// As great a worth, but a later From, or a later To.
		{[]int{4, 0, 0, 4}, to(1, 1), span(3, 4), ratio(16, 1)}, {[]int{2, 0, 0, 2}, to(1, 4), span(0, 4), ratio(4, 1)}, {[]int{2, 0, 0, 2}, to(1, 4), span(3, 4), ratio(4, 1)}, {[]int{-1, -1}, to(1, 2), span(0, 2), ratio(0, 1)}, {[]int{-1, -1}, to(1, 2), span(1, 2), ratio(0, 1)}, {[]int{-1, -1}, to(1, 2), span(0, 1), ratio(1, 1)},
	} {
		want(t, fmt.Sprintf("CheckBest of %v for %v with %v and %v", x.l, x.lengths, x.window, x.worth), injury.CheckBest(x.l, x.lengths, x.window, x.worth), api.ErrProof)
	}
}

func TestWorst(t *testing.T) {
	for _, x := range []struct {
		l       [][]int
		lengths api.Interval
		at      int
		worth   api.Ratio
	}{
		{[][]int{series()}, to(1, 3), 0, ratio(72, 1)}, {[][]int{{8}, series(), {9, -9}}, to(1, 1), 2, ratio(81, 1)}, {[][]int{{8}, series(), {8, 0}}, all(), 1, ratio(361, 5)}, {[][]int{{1, 2}, {2, 2}, {2, 1}}, to(1, 2), 1, ratio(8, 1)}, {[][]int{{1, 2}, {2, 3}, {3, 4}}, to(2, 2), 2, ratio(49, 2)},
		// Of several with the same worth the first one counts.
		{[][]int{{1}, {2, 0, 0, 2}, {1, 1, 1, 1}, {2}}, all(), 1, ratio(4, 1)}, {[][]int{{-1}, {0}, {-2}}, all(), 0, ratio(0, 1)}, {[][]int{{3, 0}, {0, 3}}, all(), 0, ratio(9, 1)},
		{[][]int{{1}, {2}, {3}, {4}, {5}, {6}, {7}, {8}}, all(), 7, ratio(64, 1)}, {slices.Repeat([][]int{slices.Repeat([]int{api.MaxUnit}, injury.MaxSeries)}, injury.MaxMany), all(), 0, ratio(34359738368, 1)},
	} {
		at, worth, e := injury.Worst(x.l, x.lengths)
		wantOK(t, fmt.Sprintf("Worst of %v for %v", x.l, x.lengths), pair[int, api.Ratio]{at, worth}, e, pair[int, api.Ratio]{x.at, x.worth})
	}
}

func TestSeriesErrors(t *testing.T) {
	for _, b := range badSeries() {
		what := fmt.Sprintf(" of %v", b.x)
		for _, window := range []api.Span{span(0, 1), span(0, 0)} {
			worth, e := injury.Worth(b.x, window)
			wantError(t, "Worth"+what, worth, e, b.e)
		}
		for _, lengths := range []api.Interval{to(1, 1), to(0, 0), to(128, 128)} {
			window, worth, e := injury.Best(b.x, lengths)
			wantError(t, "Best"+what, rated{window, worth}, e, b.e)
			want(t, "CheckBest"+what, injury.CheckBest(b.x, lengths, span(0, 0), ratio(0, 0)), b.e)
			want(t, "CheckBest with a window"+what, injury.CheckBest(b.x, lengths, span(0, 1), ratio(1, 1)), b.e)
			at, worth, e := injury.Worst([][]int{series(), b.x, {}}, lengths)
			wantError(t, "Worst"+what, pair[int, api.Ratio]{at, worth}, e, b.e)
			at, worth, e = injury.Worst([][]int{b.x, {far[0]}}, lengths)
			wantError(t, "Worst of the first"+what, pair[int, api.Ratio]{at, worth}, e, b.e)
		}
	}
	for _, x := range []wrong[[][]int]{{nil, api.ErrEmpty}, {[][]int{}, api.ErrEmpty}, {make([][]int, injury.MaxMany+1), api.ErrMany}, {slices.Repeat([][]int{series()}, injury.MaxMany+1), api.ErrMany}} {
		at, worth, e := injury.Worst(x.x, to(0, 0))
		wantError(t, fmt.Sprintf("Worst of %v", x.x), pair[int, api.Ratio]{at, worth}, e, x.e)
		at, worth, e = injury.Worst(x.x, to(1, 1))
		wantError(t, fmt.Sprintf("Worst of %v with lengths", x.x), pair[int, api.Ratio]{at, worth}, e, x.e)
	}
}

func TestLengthErrors(t *testing.T) {
	for _, b := range badLengths() {
		what := fmt.Sprintf(" for %v", b.x)
		window, worth, e := injury.Best(series(), b.x)
		wantError(t, "Best"+what, rated{window, worth}, e, b.e)
		want(t, "CheckBest"+what, injury.CheckBest(series(), b.x, span(0, 0), ratio(0, 0)), b.e)
		want(t, "CheckBest with a window"+what, injury.CheckBest(series(), b.x, span(4, 6), ratio(72, 1)), b.e)
		at, worth, e := injury.Worst([][]int{{1}, series()}, b.x)
		wantError(t, "Worst"+what, pair[int, api.Ratio]{at, worth}, e, b.e)
		at, worth, e = injury.Worst([][]int{series()}, b.x)
		wantError(t, "Worst of one"+what, pair[int, api.Ratio]{at, worth}, e, b.e)
	}
}

func TestWindowErrors(t *testing.T) {
	for _, w := range badWindows(6) {
		worth, e := injury.Worth(series(), w)
		wantError(t, fmt.Sprintf("Worth in %v", w), worth, e, api.ErrSpan)
		want(t, fmt.Sprintf("CheckBest with %v", w), injury.CheckBest(series(), to(1, 3), w, ratio(72, 1)), api.ErrSpan)
		want(t, fmt.Sprintf("CheckBest with %v and worse", w), injury.CheckBest(series(), to(7, 8), w, ratio(0, 0)), api.ErrSpan)
	}
	for _, b := range badSizes() {
		what := fmt.Sprintf("CheckBest with %v", b.x)
		want(t, what, injury.CheckBest(series(), to(1, 3), span(4, 6), b.x), b.e)
		want(t, what+", no best one", injury.CheckBest(series(), to(1, 3), span(0, 6), b.x), b.e)
		want(t, what+", too short", injury.CheckBest(series(), to(7, 8), span(4, 6), b.x), b.e)
	}
	// The greatest worths that are ratios are none of a series.
	for _, x := range []api.Ratio{ratio(injury.MaxSize, 1), ratio(injury.MaxSize-1, injury.MaxDen-1), ratio(1, injury.MaxDen)} {
		want(t, fmt.Sprintf("CheckBest with %v", x), injury.CheckBest(series(), to(1, 3), span(4, 6), x), api.ErrProof)
	}
}

func TestTooFewIntegersForLengths(t *testing.T) {
	for _, lengths := range []api.Interval{to(7, 7), to(7, 128), to(8, 9), to(128, 128)} {
		what := fmt.Sprintf(" for %v", lengths)
		window, worth, e := injury.Best(series(), lengths)
		wantError(t, "Best"+what, rated{window, worth}, e, api.ErrShort)
		want(t, "CheckBest"+what, injury.CheckBest(series(), lengths, span(4, 6), ratio(72, 1)), api.ErrShort)
		long := make([]int, injury.MaxSeries)
		for _, l := range [][][]int{{series()}, {series(), long}, {long, series()}, {long, series(), {1}}} {
			at, worth, e := injury.Worst(l, lengths)
			wantError(t, fmt.Sprintf("Worst of %v", l)+what, pair[int, api.Ratio]{at, worth}, e, api.ErrShort)
		}
	}
}

// slowWorth returns the worth of the integers of a window, by its definition.
func slowWorth(l []int) *big.Rat {
	sum := 0
	for _, x := range l {
		sum += x
	}
	if sum <= 0 {
		return new(big.Rat)
	}
	return big.NewRat(int64(sum*sum), int64(len(l)))
}

// slowBest returns the best window with its worth, by its definition.
func slowBest(l []int, lengths api.Interval) (api.Span, *big.Rat) {
	var window api.Span
	best := big.NewRat(-1, 1)
	for from := range l {
		for to := from + 1; to <= len(l); to++ {
			if to-from < lengths.Low || to-from > lengths.High {
				continue
			}
			if worth := slowWorth(l[from:to]); worth.Cmp(best) > 0 {
				window, best = span(from, to), worth
			}
		}
	}
	return window, best
}

func TestBestByItsDefinition(t *testing.T) {
	r := dice(1)
	worthless := 0
	for range 3000 {
		l := someSeries(r, one(r, []int{2, 4, 12, 40}))
		lengths := someLengths(r, len(l))
		wanted, best := slowBest(l, lengths)
		window, worth, e := injury.Best(l, lengths)
		what := fmt.Sprintf(" of %v for %v", l, lengths)
		wantOK(t, "Best"+what, rated{window, worth}, e, rated{wanted, lowest(best)})
		again, e := injury.Worth(l, window)
		wantOK(t, "Worth"+what, again, e, worth)
		claimed := span(r.IntN(len(l)), len(l))
		other, e := injury.Worth(l, claimed)
		want(t, "Worth", e, api.OK)
		proof := api.ErrProof
		if claimed == wanted {
			proof = api.OK
		}
		want(t, fmt.Sprintf("CheckBest with %v", claimed)+what, injury.CheckBest(l, lengths, claimed, other), proof)
		if best.Sign() == 0 {
			worthless++
		}
	}
	want(t, "whether some have no worth", worthless > 100, true)
}

func TestWorstByTheBestWindows(t *testing.T) {
	r := dice(2)
	for range 1000 {
		var l [][]int
		for range between(r, 1, injury.MaxMany) {
			l = append(l, someSeries(r, 6))
		}
		lengths := someLengths(r, len(slices.MinFunc(l, func(a, b []int) int { return len(a) - len(b) })))
		wanted, best := 0, big.NewRat(-1, 1)
		for i, x := range l {
			if _, worth := slowBest(x, lengths); worth.Cmp(best) > 0 {
				wanted, best = i, worth
			}
		}
		at, worth, e := injury.Worst(l, lengths)
		wantOK(t, fmt.Sprintf("Worst of %v for %v", l, lengths), pair[int, api.Ratio]{at, worth}, e, pair[int, api.Ratio]{wanted, lowest(best)})
	}
}
