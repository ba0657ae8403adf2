package injury_test

import (
	"math/rand/v2"
	"testing"

	"crumple/api"
	"crumple/injury"
)

// Rules that hold everywhere: arguments stay as they are, results share no memory, and no argument makes a function panic.

func TestArgumentsStayAsTheyAre(t *testing.T) {
	l, other := series(), []int{6, 5, 4, 3, 2, 1}
	several := [][]int{series(), other}
	values, steps := trace(), table()
	sizes := []api.Ratio{ratio(3, 1), ratio(1, 2), ratio(7, 3)}
	for range 2 {
		injury.CheckSeries(l)
		injury.CheckTrace(values)
		injury.Worth(l, span(0, 6))
		injury.Best(l, all())
		injury.CheckBest(l, all(), span(1, 6), ratio(361, 5))
		injury.Longest(l, 4)
		injury.Held(l, 2)
		injury.Above(l, 4)
		injury.Combined(l, other, [2]int{3, 4})
		moments, e := injury.Moments(l, other, 1)
		wantOK(t, "Moments", moments, e, []int{-5, -1, 1, -5, 4, 5})
		clear(moments)
		moments, e = injury.Moments(l, other, 0)
		wantOK(t, "Moments without a shift", moments, e, series())
		clear(moments)
		injury.Viscous(l)
		injury.Worst(several, to(1, 2))
		injury.BestBounds(values, to(1, 2))
		injury.HeldBounds(values, 2)
		injury.CombinedBounds(values, values, [2]int{3, 4})
		injury.Risk(steps, ratio(41, 1))
		injury.RiskBounds(steps, opened(ratio(1, 1), ratio(2, 1)))
		injury.Median(sizes)
		ranks, e := injury.Ranked(sizes)
		wantOK(t, "Ranked", ranks, e, []int{1, 2, 0})
		clear(ranks)
		injury.Print(steps)
		want(t, "the series", l, series())
		want(t, "the other one", other, []int{6, 5, 4, 3, 2, 1})
		want(t, "several series", several, [][]int{series(), {6, 5, 4, 3, 2, 1}})
		want(t, "the trace", values, trace())
		want(t, "the risk table", steps, table())
		want(t, "the ratios", sizes, []api.Ratio{ratio(3, 1), ratio(1, 2), ratio(7, 3)})
	}
	first, _, e := injury.Parse(tableText)
	want(t, "Parse", e, api.OK)
	clear(first)
	again, _, e := injury.Parse(tableText)
	wantOK(t, "Parse again", again, e, table())
}

// anyNumbers returns numbers that are hardly ever all in their ranges.
func anyNumbers(r *rand.Rand) func() int {
	numbers := append([]int{0, 1, 1, 2, 3, 5, -1, 128, 1000, injury.MaxSize}, far...)
	most := between(r, 4, len(numbers))
	return func() int { return one(r, numbers[:most]) }
}

func TestNothingPanics(t *testing.T) {
	r := dice(18)
	for range 5000 {
		number := anyNumbers(r)
		size := func() api.Ratio { return ratio(number(), number()) }
		lengths, window, limits := to(number(), number()), span(number(), number()), [2]int{number(), number()}
		var l, other []int
		var several [][]int
		var values, more []injury.Value
		var steps []injury.Step
		var sizes []api.Ratio
		for range r.IntN(4) {
			l = append(l, number())
			several = append(several, l)
			values = append(values, injury.Value{Low: number(), High: number(), Under: r.IntN(3) == 0, Over: r.IntN(3) == 0})
			steps = append(steps, injury.Step{From: size(), Risk: number()})
			sizes = append(sizes, size())
		}
		for range r.IntN(4) {
			other = append(other, number())
			more = append(more, injury.Value{Low: number(), High: number()})
		}
		b := injury.Bounds{Low: size(), High: size(), Open: r.IntN(2) == 0}
		injury.CheckSeries(l)
		injury.CheckTrace(values)
		injury.Worth(l, window)
		injury.Best(l, lengths)
		injury.CheckBest(l, lengths, window, size())
		injury.Longest(l, number())
		injury.Held(l, number())
		injury.Above(l, number())
		injury.Combined(l, other, limits)
		injury.Moments(l, other, number())
		injury.Viscous(l)
		injury.Worst(several, lengths)
		injury.BestBounds(values, lengths)
		injury.HeldBounds(values, number())
		injury.CombinedBounds(values, more, limits)
		injury.Margin(b, size())
		injury.Risk(steps, size())
		injury.RiskBounds(steps, b)
		injury.Median(sizes)
		injury.Ranked(sizes)
		injury.Print(steps)
	}
}
