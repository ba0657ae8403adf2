package injury_test

import (
	"fmt"
	"math"
	"math/big"
	"math/rand/v2"
	"slices"
	"testing"

	"crumple/api"
	"crumple/injury"
)

// far are numbers that are out of all ranges.
var far = []int{math.MinInt, math.MinInt + 1, -6000000000000, 6000000000000, math.MaxInt}

// printed returns a result as text: nil and empty lists are alike.
func printed(x any) string { return fmt.Sprintf("%+v", x) }

// want compares two results as they are printed.
func want[T any](t *testing.T, what string, got, wanted T) {
	t.Helper()
	if a, b := printed(got), printed(wanted); a != b {
		t.Errorf("%.999s: got %s, want %s", what, a, b)
	}
}

// wantError checks an error, and that a result beside one is its zero value.
func wantError[T any](t *testing.T, what string, got T, e, wanted api.Errno) {
	t.Helper()
	want(t, what+", the error", e, wanted)
	if wanted != api.OK {
		want(t, what+", beside the error", got, *new(T))
	}
}

// wantOK checks a result without an error.
func wantOK[T any](t *testing.T, what string, got T, e api.Errno, wanted T) {
	t.Helper()
	want(t, what+", the error", e, api.OK)
	want(t, what, got, wanted)
}

// dice are the same on each run.
func dice(seed uint64) *rand.Rand { return rand.New(rand.NewPCG(seed, 6)) }

// between returns a number from low to high.
func between(r *rand.Rand, low, high int) int { return low + r.IntN(high-low+1) }

// one returns an element of a list.
func one[A any](r *rand.Rand, l []A) A { return l[r.IntN(len(l))] }

// pair is two results of one call.
type pair[A, B any] struct {
	first  A
	second B
}

// rated is a window with its worth, as Best returns both.
type rated = pair[api.Span, api.Ratio]

// wrong is an argument with its first error; most have later errors, too.
type wrong[T any] struct {
	x T
	e api.Errno
}

func to(low, high int) api.Interval { return api.Interval{Low: low, High: high} }

func span(from, to int) api.Span { return api.Span{From: from, To: to} }

func ratio(num, den int) api.Ratio { return api.Ratio{Num: num, Den: den} }

// Two ratios whose products differ by 1 alone; their quotients are one number for a float64.
var (
	least    = ratio(4999994999999, 999999)
	greatest = ratio(4999999999999, 1000000)
)

// rational returns a ratio, exactly.
func rational(x api.Ratio) *big.Rat { return big.NewRat(int64(x.Num), int64(x.Den)) }

// lowest returns a number as a ratio in lowest terms.
func lowest(x *big.Rat) api.Ratio { return ratio(int(x.Num().Int64()), int(x.Denom().Int64())) }

// series returns the series S of the chapter's examples.
func series() []int { return []int{1, 4, 5, -2, 6, 6} }

// all returns the lengths of all windows.
func all() api.Interval { return to(1, injury.MaxSeries) }

// Values that are known by an interval, and may be less, greater, or both.
func value(low, high int) injury.Value { return injury.Value{Low: low, High: high} }

func under(low, high int) injury.Value { return injury.Value{Low: low, High: high, Under: true} }

func over(low, high int) injury.Value { return injury.Value{Low: low, High: high, Over: true} }

func free(low, high int) injury.Value {
	return injury.Value{Low: low, High: high, Under: true, Over: true}
}

// trace returns the trace of the chapter's example 6; the last value is clipped.
func trace() []injury.Value { return []injury.Value{value(0, 2), value(3, 5), over(4, 4)} }

// bounds returns bounds that are not open.
func bounds(low, high api.Ratio) injury.Bounds { return injury.Bounds{Low: low, High: high} }

// opened returns bounds that are open.
func opened(low, high api.Ratio) injury.Bounds {
	return injury.Bounds{Low: low, High: high, Open: true}
}

// step returns a step of a risk table.
func step(num, den, risk int) injury.Step { return injury.Step{From: ratio(num, den), Risk: risk} }

// table returns the risk table of the chapter's example 7.
func table() []injury.Step { return []injury.Step{step(10, 1, 100), step(41, 1, 500)} }

// outside has numbers that are not from low to high.
func outside(low, high int) []int { return append([]int{low - 1, high + 1}, far...) }

// badIntervals has intervals in the order of their errors, by the ends of their range.
func badIntervals(low, high int) []wrong[api.Interval] {
	l := []wrong[api.Interval]{
		{to(low-1, high), api.ErrRange}, {to(high+1, high), api.ErrRange}, {to(high+1, low), api.ErrRange},
		{to(low, high+1), api.ErrRange}, {to(low, low-1), api.ErrRange}, {to(high, low-1), api.ErrRange},
		{to(high, low), api.ErrOrder}, {to(low+1, low), api.ErrOrder},
	}
	for _, n := range far {
		l = append(l, wrong[api.Interval]{to(n, low), api.ErrRange}, wrong[api.Interval]{to(low, n), api.ErrRange}, wrong[api.Interval]{to(n, n), api.ErrRange})
	}
	return l
}

// badLengths has lengths in the order of their errors.
func badLengths() []wrong[api.Interval] { return badIntervals(1, injury.MaxSeries) }

// badSeries has series in the order of their errors.
func badSeries() []wrong[[]int] {
	l := []wrong[[]int]{{nil, api.ErrEmpty}, {[]int{}, api.ErrEmpty}, {make([]int, injury.MaxSeries+1), api.ErrMany}, {slices.Repeat([]int{far[0]}, injury.MaxSeries+1), api.ErrMany}, {make([]int, 5000), api.ErrMany}}
	for _, n := range outside(-api.MaxUnit, api.MaxUnit) {
		l = append(l, wrong[[]int]{[]int{n}, api.ErrRange}, wrong[[]int]{[]int{n, 1, 2}, api.ErrRange}, wrong[[]int]{[]int{1, n, 2}, api.ErrRange}, wrong[[]int]{append(make([]int, injury.MaxSeries-1), n), api.ErrRange})
	}
	return l
}

// badTraces has traces in the order of their errors.
func badTraces() []wrong[[]injury.Value] {
	good := value(-1, 1)
	l := []wrong[[]injury.Value]{
		{nil, api.ErrEmpty}, {[]injury.Value{}, api.ErrEmpty}, {make([]injury.Value, injury.MaxSeries+1), api.ErrMany}, {slices.Repeat([]injury.Value{value(far[0], 0)}, injury.MaxSeries+1), api.ErrMany},
		{[]injury.Value{good, value(1, 0), value(far[0], 0)}, api.ErrOrder}, {[]injury.Value{good, value(0, far[0]), value(1, 0)}, api.ErrRange},
	}
	for _, b := range badIntervals(-api.MaxUnit, api.MaxUnit) {
		for _, v := range []injury.Value{value(b.x.Low, b.x.High), free(b.x.Low, b.x.High)} {
			l = append(l, wrong[[]injury.Value]{[]injury.Value{v}, b.e}, wrong[[]injury.Value]{[]injury.Value{good, v, good}, b.e}, wrong[[]injury.Value]{append(make([]injury.Value, injury.MaxSeries-1), v), b.e})
		}
	}
	return l
}

// badWindows has spans that are no windows of some integers.
func badWindows(size int) []api.Span {
	l := []api.Span{span(0, 0), span(1, 1), span(1, 0), span(size, size), span(size-1, size+1), span(size, size+1), span(-1, 0), span(-1, 1), span(-1, size), span(0, size+1), span(-1, size+1), span(0, -1), span(size, 0)}
	for _, n := range far {
		l = append(l, span(n, 1), span(0, n), span(n, n))
	}
	return l
}

// badSizes has ratios in the order of their errors.
func badSizes() []wrong[api.Ratio] {
	var l []wrong[api.Ratio]
	for _, n := range append(outside(0, injury.MaxSize), injury.MaxSize+2) {
		l = append(l, wrong[api.Ratio]{ratio(n, 1), api.ErrRange}, wrong[api.Ratio]{ratio(n, 2), api.ErrRange}, wrong[api.Ratio]{ratio(n, 0), api.ErrRange})
	}
	for _, n := range append(outside(1, injury.MaxDen), -2, injury.MaxDen+2) {
		l = append(l, wrong[api.Ratio]{ratio(1, n), api.ErrRange}, wrong[api.Ratio]{ratio(0, n), api.ErrRange}, wrong[api.Ratio]{ratio(4, n), api.ErrRange}, wrong[api.Ratio]{ratio(n, n), api.ErrRange})
	}
	for _, x := range []api.Ratio{ratio(0, 2), ratio(0, injury.MaxDen), ratio(2, 2), ratio(2, 4), ratio(4, 2), ratio(9, 6), ratio(injury.MaxSize, 2), ratio(injury.MaxSize, injury.MaxDen), ratio(injury.MaxDen, injury.MaxDen), ratio(35, 49), ratio(999999, 3)} {
		l = append(l, wrong[api.Ratio]{x, api.ErrForm})
	}
	return l
}

// badBounds has bounds in the order of their errors.
func badBounds() []wrong[injury.Bounds] {
	var l []wrong[injury.Bounds]
	add := func(low, high api.Ratio, e api.Errno) {
		l = append(l, wrong[injury.Bounds]{bounds(low, high), e}, wrong[injury.Bounds]{opened(low, high), e})
	}
	for _, b := range badSizes() {
		add(b.x, ratio(1, 1), b.e)
		add(b.x, ratio(0, 0), b.e)
		add(b.x, ratio(2, 2), b.e)
		add(b.x, b.x, b.e)
		add(ratio(injury.MaxSize, 1), b.x, b.e)
		add(ratio(0, 1), b.x, b.e)
	}
	for _, x := range [][2]api.Ratio{{ratio(1, 1), ratio(0, 1)}, {ratio(1, 2), ratio(1, 3)}, {ratio(7, 3), ratio(2, 1)}, {ratio(5, 1), ratio(9, 2)}, {greatest, least}, {ratio(injury.MaxSize, 1), ratio(injury.MaxSize-1, 1)}, {ratio(1, injury.MaxDen), ratio(0, 1)}} {
		add(x[0], x[1], api.ErrOrder)
	}
	return l
}

// badTables has risk tables in the order of their errors.
func badTables() []wrong[[]injury.Step] {
	good, next := step(3, 2, 100), step(5, 2, 100)
	var many []injury.Step
	for i := range injury.MaxSteps + 1 {
		many = append(many, step(i, 1, i))
	}
	l := []wrong[[]injury.Step]{
		{nil, api.ErrEmpty}, {[]injury.Step{}, api.ErrEmpty}, {make([]injury.Step, injury.MaxSteps+1), api.ErrMany}, {many, api.ErrMany},
		{[]injury.Step{good, {}}, api.ErrRange}, {[]injury.Step{{}}, api.ErrRange},
		// The same size, a lesser one, and a lesser risk.
		{[]injury.Step{good, step(3, 2, 200), {}}, api.ErrOrder}, {[]injury.Step{good, step(1, 1, 200), {}}, api.ErrOrder}, {[]injury.Step{good, step(4, 3, 200)}, api.ErrOrder}, {[]injury.Step{good, step(2, 1, 99), {}}, api.ErrOrder}, {[]injury.Step{good, step(2, 1, 0)}, api.ErrOrder}, {[]injury.Step{good, step(1, 1, 99)}, api.ErrOrder},
		{[]injury.Step{{From: greatest}, {From: least}}, api.ErrOrder}, {[]injury.Step{good, next, good}, api.ErrOrder}, {[]injury.Step{good, step(injury.MaxSize, 1, 1000), next}, api.ErrOrder}, {[]injury.Step{good, good}, api.ErrOrder}, {[]injury.Step{step(0, 1, 5), step(0, 1, 6)}, api.ErrOrder}, {append(slices.Clone(many[:injury.MaxSteps-1]), many[0]), api.ErrOrder},
		// An error of the order comes after those of the step itself, but before those of later steps.
		{[]injury.Step{good, step(1, 1, 1001)}, api.ErrRange}, {[]injury.Step{good, step(2, 2, 99)}, api.ErrForm}, {[]injury.Step{good, step(1, 1, 100), step(2, 2, 200)}, api.ErrOrder},
	}
	for _, b := range badSizes() {
		l = append(l, wrong[[]injury.Step]{[]injury.Step{{From: b.x}}, b.e}, wrong[[]injury.Step]{[]injury.Step{{From: b.x, Risk: -1}}, b.e}, wrong[[]injury.Step]{[]injury.Step{good, {From: b.x, Risk: 1001}, {}}, b.e}, wrong[[]injury.Step]{[]injury.Step{good, {From: b.x, Risk: 99}, good}, b.e})
	}
	for _, n := range outside(0, injury.MaxRisk) {
		l = append(l, wrong[[]injury.Step]{[]injury.Step{step(0, 1, n)}, api.ErrRange}, wrong[[]injury.Step]{[]injury.Step{good, step(2, 1, n), step(1, 1, 0)}, api.ErrRange}, wrong[[]injury.Step]{[]injury.Step{good, step(1, 1, n)}, api.ErrRange})
	}
	return l
}

// badSizeLists has ratios in the order of their errors.
func badSizeLists() []wrong[[]api.Ratio] {
	l := []wrong[[]api.Ratio]{{nil, api.ErrEmpty}, {[]api.Ratio{}, api.ErrEmpty}, {make([]api.Ratio, injury.MaxRepeats+1), api.ErrMany}, {slices.Repeat([]api.Ratio{ratio(1, 1)}, injury.MaxRepeats+1), api.ErrMany}}
	for _, b := range badSizes() {
		l = append(l, wrong[[]api.Ratio]{[]api.Ratio{b.x}, b.e}, wrong[[]api.Ratio]{[]api.Ratio{ratio(1, 1), b.x, {}}, b.e}, wrong[[]api.Ratio]{[]api.Ratio{b.x, ratio(2, 2)}, b.e}, wrong[[]api.Ratio]{append(slices.Repeat([]api.Ratio{ratio(1, 1)}, injury.MaxRepeats-1), b.x), b.e})
	}
	return l
}

// badLimits has limits of which one is not in its range.
func badLimits() [][2]int {
	var l [][2]int
	for _, n := range outside(1, injury.MaxLimit) {
		l = append(l, [2]int{n, 1}, [2]int{1, n}, [2]int{n, injury.MaxLimit}, [2]int{injury.MaxLimit, n}, [2]int{n, n})
	}
	return l
}

// someSeries returns a series of at most some integers, of which many are alike, or of any.
func someSeries(r *rand.Rand, most int) []int {
	reach := one(r, []int{1, 2, 5, 30, api.MaxUnit})
	var l []int
	for range between(r, 1, most) {
		l = append(l, between(r, -reach, reach))
	}
	return l
}

// someLengths returns lengths of which a series of some integers has windows.
func someLengths(r *rand.Rand, size int) api.Interval {
	low := between(r, 1, size)
	return to(low, between(r, low, one(r, []int{low, size, injury.MaxSeries})))
}

// someSize returns a ratio, of which many are alike, or any.
func someSize(r *rand.Rand) api.Ratio {
	if r.IntN(4) == 0 {
		return lowest(big.NewRat(r.Int64N(injury.MaxSize+1), r.Int64N(injury.MaxDen)+1))
	}
	return lowest(big.NewRat(r.Int64N(8), r.Int64N(4)+1))
}

// someSizes returns ratios.
func someSizes(r *rand.Rand) []api.Ratio {
	var l []api.Ratio
	for range between(r, 1, injury.MaxRepeats) {
		l = append(l, someSize(r))
	}
	return l
}

// someBounds returns bounds, open or not.
func someBounds(r *rand.Rand) injury.Bounds {
	a, b := someSize(r), someSize(r)
	if rational(a).Cmp(rational(b)) > 0 {
		a, b = b, a
	}
	return injury.Bounds{Low: a, High: b, Open: r.IntN(3) == 0}
}

// someTable returns a risk table.
func someTable(r *rand.Rand) []injury.Step {
	sizes := someSizes(r)
	slices.SortFunc(sizes, func(a, b api.Ratio) int { return rational(a).Cmp(rational(b)) })
	var l []injury.Step
	risk := 0
	for _, x := range slices.Compact(sizes) {
		risk = min(injury.MaxRisk, risk+between(r, 0, one(r, []int{0, 3, 200})))
		l = append(l, injury.Step{From: x, Risk: risk})
	}
	return l
}

// measured returns values of the integers of a series; those that may be less, or greater, need not contain them on that side.
func measured(r *rand.Rand, l []int) []injury.Value {
	open := one(r, []int{0, 0, 2, 8})
	var values []injury.Value
	for _, x := range l {
		width := one(r, []int{0, 1, 5, 500})
		v := value(max(-api.MaxUnit, x-r.IntN(width+1)), min(api.MaxUnit, x+r.IntN(width+1)))
		if r.IntN(10) < open {
			v.Under = true
			v.Low = between(r, v.Low, v.High)
		}
		if r.IntN(10) < open {
			v.Over = true
			v.High = between(r, v.Low, v.High)
		}
		values = append(values, v)
	}
	return values
}
