package injury_test

import (
	"fmt"
	"slices"
	"testing"

	"crumple/api"
	"crumple/injury"
)

// P6.1 (levels): spans from a level on, levels that are held, and counts, with ordinary inputs, at their limits, and with their errors in their order.

func TestLongest(t *testing.T) {
	full := slices.Repeat([]int{api.MaxUnit}, injury.MaxSeries)
	for _, x := range []struct {
		l     []int
		level int
		span  api.Span
	}{
		{series(), 4, span(1, 3)}, {series(), 6, span(4, 6)}, {series(), 7, span(0, 0)}, {series(), 5, span(4, 6)}, {series(), 1, span(0, 3)}, {series(), 2, span(1, 3)}, {series(), 0, span(0, 3)}, {series(), -1, span(0, 3)}, {series(), -2, span(0, 6)}, {series(), -api.MaxUnit, span(0, 6)}, {series(), api.MaxUnit, span(0, 0)},
		{[]int{5, 0, 5, 5, 0, 5, 5}, 1, span(2, 4)}, {[]int{5, 5, 0, 5, 5}, 5, span(0, 2)}, {[]int{5, 0, 5}, 5, span(0, 1)}, {[]int{0, 0, 5}, 5, span(2, 3)}, {[]int{0, 5, 5, 5, 0, 5, 5, 5, 5}, 5, span(5, 9)}, {[]int{0, 5, 5, 5, 0, 5, 5, 5}, 5, span(1, 4)}, {[]int{5, 5, 5, 0, 0}, 1, span(0, 3)}, {[]int{4, 4, 4}, 5, span(0, 0)},
		{[]int{-api.MaxUnit}, -api.MaxUnit, span(0, 1)}, {[]int{-api.MaxUnit}, 1 - api.MaxUnit, span(0, 0)}, {full, api.MaxUnit, span(0, 128)}, {full, 0, span(0, 128)}, {append([]int{0}, full[1:]...), 1, span(1, 128)}, {append(slices.Clone(full[1:]), 0), 1, span(0, 127)},
	} {
		found, e := injury.Longest(x.l, x.level)
		wantOK(t, fmt.Sprintf("Longest of %v from %d on", x.l, x.level), found, e, x.span)
	}
}

func TestHeld(t *testing.T) {
	full := slices.Repeat([]int{api.MaxUnit}, injury.MaxSeries)
	for _, x := range []struct {
		l       []int
		samples int
		level   int
		window  api.Span
	}{
		{series(), 1, 6, span(4, 5)}, {series(), 2, 6, span(4, 6)}, {series(), 3, 1, span(0, 3)}, {series(), 4, -2, span(0, 4)}, {series(), 5, -2, span(0, 5)}, {series(), 6, -2, span(0, 6)},
		{[]int{3, 3, 9, 3, 3}, 2, 3, span(0, 2)}, {[]int{1, 3, 9, 3, 3}, 2, 3, span(1, 3)}, {[]int{1, 2, 9, 2, 3}, 2, 2, span(1, 3)}, {[]int{0, 5, 6, 0, 6, 5}, 2, 5, span(1, 3)}, {[]int{0, 5, 6, 0, 6, 6}, 2, 6, span(4, 6)}, {[]int{0, 0, 0}, 2, 0, span(0, 2)},
		{[]int{-5}, 1, -5, span(0, 1)}, {[]int{-5, -7, -6}, 2, -7, span(0, 2)}, {[]int{-9, -7, -6}, 2, -7, span(1, 3)}, {[]int{-api.MaxUnit, api.MaxUnit}, 2, -api.MaxUnit, span(0, 2)},
		{full, 1, api.MaxUnit, span(0, 1)}, {full, 128, api.MaxUnit, span(0, 128)}, {append([]int{0}, full[1:]...), 127, api.MaxUnit, span(1, 128)},
	} {
		level, window, e := injury.Held(x.l, x.samples)
		wantOK(t, fmt.Sprintf("Held of %v for %d", x.l, x.samples), pair[int, api.Span]{level, window}, e, pair[int, api.Span]{x.level, x.window})
	}
}

func TestAbove(t *testing.T) {
	for _, x := range []struct {
		l            []int
		level, count int
	}{
		{series(), 4, 4}, {series(), 5, 3}, {series(), 6, 2}, {series(), 7, 0}, {series(), 1, 5}, {series(), -2, 6}, {series(), -1, 5}, {series(), -api.MaxUnit, 6}, {series(), api.MaxUnit, 0},
		{[]int{-api.MaxUnit}, -api.MaxUnit, 1}, {[]int{api.MaxUnit, 0, api.MaxUnit}, api.MaxUnit, 2}, {make([]int, injury.MaxSeries), 0, 128}, {make([]int, injury.MaxSeries), 1, 0},
	} {
		count, e := injury.Above(x.l, x.level)
		wantOK(t, fmt.Sprintf("Above of %v from %d on", x.l, x.level), count, e, x.count)
	}
}

func TestLevelErrors(t *testing.T) {
	for _, b := range badSeries() {
		what := fmt.Sprintf(" of %v", b.x)
		for _, level := range []int{0, far[0]} {
			found, e := injury.Longest(b.x, level)
			wantError(t, "Longest"+what, found, e, b.e)
			count, e := injury.Above(b.x, level)
			wantError(t, "Above"+what, count, e, b.e)
		}
		for _, samples := range []int{1, 0, 128, 129} {
			level, window, e := injury.Held(b.x, samples)
			wantError(t, "Held"+what, pair[int, api.Span]{level, window}, e, b.e)
		}
	}
	for _, level := range outside(-api.MaxUnit, api.MaxUnit) {
		found, e := injury.Longest(series(), level)
		wantError(t, fmt.Sprintf("Longest from %d on", level), found, e, api.ErrRange)
		count, e := injury.Above(series(), level)
		wantError(t, fmt.Sprintf("Above from %d on", level), count, e, api.ErrRange)
	}
	for _, samples := range outside(1, injury.MaxSeries) {
		level, window, e := injury.Held(series(), samples)
		wantError(t, fmt.Sprintf("Held for %d", samples), pair[int, api.Span]{level, window}, e, api.ErrRange)
	}
	for _, samples := range []int{7, 8, injury.MaxSeries} {
		level, window, e := injury.Held(series(), samples)
		wantError(t, fmt.Sprintf("Held for %d", samples), pair[int, api.Span]{level, window}, e, api.ErrShort)
	}
	level, window, e := injury.Held(make([]int, 127), 128)
	wantError(t, "Held for one more", pair[int, api.Span]{level, window}, e, api.ErrShort)
}

// holds reports whether all integers of a span are at least a level.
func holds(l []int, s api.Span, level int) bool {
	return !slices.ContainsFunc(l[s.From:s.To], func(x int) bool { return x < level })
}

// slowLongest returns the longest span from a level on, by its definition: the longest lengths first.
func slowLongest(l []int, level int) api.Span {
	for length := len(l); length > 0; length-- {
		for from := range len(l) - length + 1 {
			if s := span(from, from+length); holds(l, s, level) {
				return s
			}
		}
	}
	return api.Span{}
}

// slowHeld returns the level that is held, by its definition: the greatest levels first.
func slowHeld(l []int, samples int) (int, api.Span) {
	levels := slices.Clone(l)
	slices.Sort(levels)
	for _, level := range slices.Backward(levels) {
		for from := range len(l) - samples + 1 {
			if s := span(from, from+samples); holds(l, s, level) {
				return level, s
			}
		}
	}
	return 0, api.Span{}
}

func TestLevelsByTheirDefinitions(t *testing.T) {
	r := dice(3)
	for range 3000 {
		l := someSeries(r, one(r, []int{2, 5, 12, 30}))
		level := one(r, l) + between(r, -1, 1)
		level = min(api.MaxUnit, max(-api.MaxUnit, level))
		found, e := injury.Longest(l, level)
		wantOK(t, fmt.Sprintf("Longest of %v from %d on", l, level), found, e, slowLongest(l, level))
		wanted := 0
		for _, x := range l {
			if x >= level {
				wanted++
			}
		}
		count, e := injury.Above(l, level)
		wantOK(t, fmt.Sprintf("Above of %v from %d on", l, level), count, e, wanted)
		samples := between(r, 1, len(l))
		greatest, window := slowHeld(l, samples)
		held, at, e := injury.Held(l, samples)
		wantOK(t, fmt.Sprintf("Held of %v for %d", l, samples), pair[int, api.Span]{held, at}, e, pair[int, api.Span]{greatest, window})
	}
}
