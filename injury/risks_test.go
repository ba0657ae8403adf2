package injury_test

import (
	"fmt"
	"math/big"
	"slices"
	"testing"

	"crumple/api"
	"crumple/injury"
)

// P6.4 (risks): risks, medians and ranks with ordinary inputs, at their limits, and with their errors in their order.

// many returns a risk table with as many steps as one may have.
func many() []injury.Step {
	var l []injury.Step
	for i := range injury.MaxSteps {
		l = append(l, step(2*i+1, 2, 10*i))
	}
	return l
}

func TestRisk(t *testing.T) {
	for _, x := range []struct {
		table []injury.Step
		size  api.Ratio
		risk  int
	}{
		{table(), ratio(81, 2), 100}, {table(), ratio(41, 1), 500}, {table(), ratio(10, 1), 100}, {table(), ratio(19, 2), 0}, {table(), ratio(0, 1), 0}, {table(), ratio(42, 1), 500}, {table(), ratio(injury.MaxSize, 1), 500}, {table(), ratio(9999999, injury.MaxDen), 0}, {table(), ratio(10000001, injury.MaxDen), 100}, {table(), ratio(1, injury.MaxDen), 0},
		{[]injury.Step{step(0, 1, 7)}, ratio(0, 1), 7}, {[]injury.Step{step(0, 1, 7)}, ratio(5, 1), 7}, {[]injury.Step{step(0, 1, 0), step(1, 2, 0), step(1, 1, 1000)}, ratio(2, 3), 0}, {[]injury.Step{step(0, 1, 0), step(1, 2, 3), step(2, 3, 3), step(1, 1, 1000)}, ratio(3, 4), 3}, {[]injury.Step{step(1, 3, 1), step(1, 2, 2)}, ratio(1, 3), 1}, {[]injury.Step{step(1, 3, 1), step(1, 2, 2)}, ratio(2, 5), 1}, {[]injury.Step{step(1, 3, 1), step(1, 2, 2)}, ratio(2, 7), 0},
		{many(), ratio(31, 2), 150}, {many(), ratio(30, 2*1), 150 - 10}, {many(), ratio(1, 2), 0}, {many(), ratio(3, 2), 10}, {many(), ratio(29, 2), 140}, {many(), ratio(100, 1), 150},
		{[]injury.Step{{From: least, Risk: 1}, {From: greatest, Risk: 2}}, least, 1}, {[]injury.Step{{From: least, Risk: 1}, {From: greatest, Risk: 2}}, greatest, 2}, {[]injury.Step{{From: greatest, Risk: 2}}, least, 0}, {[]injury.Step{step(injury.MaxSize, 1, 1000)}, ratio(injury.MaxSize, 1), 1000}, {[]injury.Step{step(injury.MaxSize, 1, 1000)}, ratio(injury.MaxSize-1, 1), 0},
	} {
		x.size = lowest(rational(x.size))
		risk, e := injury.Risk(x.table, x.size)
		wantOK(t, fmt.Sprintf("Risk of %v by %v", x.size, x.table), risk, e, x.risk)
	}
}

func TestRiskBounds(t *testing.T) {
	low, high := ratio(49, 2), ratio(81, 2)
	for _, x := range []struct {
		table []injury.Step
		b     injury.Bounds
		risk  api.Interval
	}{
		{table(), bounds(low, high), to(100, 100)}, {table(), opened(low, high), to(100, 500)}, {table(), bounds(low, ratio(41, 1)), to(100, 500)}, {table(), bounds(ratio(0, 1), ratio(9, 1)), to(0, 0)}, {table(), opened(ratio(0, 1), ratio(9, 1)), to(0, 500)}, {table(), bounds(ratio(0, 1), ratio(10, 1)), to(0, 100)}, {table(), bounds(ratio(0, 1), ratio(50, 1)), to(0, 500)}, {table(), bounds(ratio(50, 1), ratio(50, 1)), to(500, 500)}, {table(), opened(ratio(50, 1), ratio(50, 1)), to(500, 500)}, {table(), bounds(ratio(10, 1), ratio(10, 1)), to(100, 100)},
		{many(), bounds(ratio(1, 1), ratio(2, 1)), to(0, 10)}, {many(), opened(ratio(1, 1), ratio(2, 1)), to(0, 150)}, {[]injury.Step{step(5, 1, 7)}, opened(ratio(1, 1), ratio(1, 1)), to(0, 7)},
		{[]injury.Step{{From: greatest, Risk: 9}}, bounds(least, greatest), to(0, 9)}, {[]injury.Step{{From: greatest, Risk: 9}}, bounds(least, least), to(0, 0)},
	} {
		risk, e := injury.RiskBounds(x.table, x.b)
		wantOK(t, fmt.Sprintf("RiskBounds of %v by %v", x.b, x.table), risk, e, x.risk)
	}
}

func TestMedian(t *testing.T) {
	for _, x := range []struct {
		l      []api.Ratio
		median api.Ratio
	}{
		{[]api.Ratio{ratio(3, 1), ratio(1, 2), ratio(7, 3)}, ratio(7, 3)}, {[]api.Ratio{ratio(3, 1), ratio(1, 2)}, ratio(1, 2)}, {[]api.Ratio{ratio(1, 2), ratio(3, 1)}, ratio(1, 2)}, {[]api.Ratio{ratio(5, 4)}, ratio(5, 4)}, {[]api.Ratio{ratio(0, 1), ratio(0, 1)}, ratio(0, 1)},
		{[]api.Ratio{ratio(4, 1), ratio(3, 1), ratio(2, 1), ratio(1, 1)}, ratio(2, 1)}, {[]api.Ratio{ratio(1, 1), ratio(2, 1), ratio(3, 1), ratio(4, 1)}, ratio(2, 1)}, {[]api.Ratio{ratio(5, 1), ratio(1, 1), ratio(4, 1), ratio(2, 1), ratio(3, 1)}, ratio(3, 1)}, {[]api.Ratio{ratio(9, 1), ratio(9, 1), ratio(1, 1)}, ratio(9, 1)}, {[]api.Ratio{ratio(1, 1), ratio(9, 1), ratio(1, 1)}, ratio(1, 1)},
		// Neither the numerators nor the denominators tell the order.
		{[]api.Ratio{ratio(9, 4), ratio(2, 1), ratio(11, 5)}, ratio(11, 5)}, {[]api.Ratio{ratio(1, 2), ratio(1, 3), ratio(1, 4)}, ratio(1, 3)}, {[]api.Ratio{ratio(999999, injury.MaxDen), ratio(1, 1), ratio(1, injury.MaxDen)}, ratio(999999, injury.MaxDen)}, {[]api.Ratio{greatest, least}, least}, {[]api.Ratio{greatest, least, ratio(injury.MaxSize, 1)}, greatest}, {[]api.Ratio{greatest, least, ratio(0, 1)}, least},
		{slices.Repeat([]api.Ratio{ratio(2, 1), ratio(1, 1), ratio(3, 1)}, 5), ratio(2, 1)},
	} {
		median, e := injury.Median(x.l)
		wantOK(t, fmt.Sprintf("Median of %v", x.l), median, e, x.median)
	}
}

func TestRanked(t *testing.T) {
	var up, down []api.Ratio
	var ranks []int
	for i := range injury.MaxRepeats {
		up, down = append(up, ratio(2*i+1, 2)), append(down, ratio(1, i+1))
		ranks = append(ranks, i)
	}
	backward := slices.Clone(ranks)
	slices.Reverse(backward)
	for _, x := range []struct {
		l     []api.Ratio
		ranks []int
	}{
		{[]api.Ratio{ratio(3, 1), ratio(1, 2), ratio(7, 3)}, []int{1, 2, 0}}, {[]api.Ratio{ratio(3, 1)}, []int{0}}, {[]api.Ratio{ratio(1, 1), ratio(0, 1), ratio(1, 1), ratio(0, 1)}, []int{1, 3, 0, 2}}, {[]api.Ratio{greatest, least, greatest, least}, []int{1, 3, 0, 2}}, {[]api.Ratio{ratio(9, 4), ratio(2, 1), ratio(11, 5)}, []int{1, 2, 0}},
		{up, ranks}, {down, backward}, {slices.Repeat([]api.Ratio{ratio(5, 3)}, injury.MaxRepeats), ranks},
	} {
		l, e := injury.Ranked(x.l)
		wantOK(t, fmt.Sprintf("Ranked of %v", x.l), l, e, x.ranks)
	}
}

func TestRiskErrors(t *testing.T) {
	for _, b := range badTables() {
		what := fmt.Sprintf(" by %v", b.x)
		for _, size := range []api.Ratio{ratio(1, 1), ratio(0, 0)} {
			risk, e := injury.Risk(b.x, size)
			wantError(t, "Risk"+what, risk, e, b.e)
			both, e := injury.RiskBounds(b.x, bounds(size, size))
			wantError(t, "RiskBounds"+what, both, e, b.e)
		}
		s, e := injury.Print(b.x)
		wantError(t, "Print"+what, s, e, b.e)
	}
	for _, b := range badSizes() {
		risk, e := injury.Risk(table(), b.x)
		wantError(t, fmt.Sprintf("Risk of %v", b.x), risk, e, b.e)
	}
	for _, b := range badBounds() {
		risk, e := injury.RiskBounds(table(), b.x)
		wantError(t, fmt.Sprintf("RiskBounds of %v", b.x), risk, e, b.e)
	}
	for _, b := range badSizeLists() {
		median, e := injury.Median(b.x)
		wantError(t, fmt.Sprintf("Median of %v", b.x), median, e, b.e)
		ranks, e := injury.Ranked(b.x)
		wantError(t, fmt.Sprintf("Ranked of %v", b.x), ranks, e, b.e)
	}
}

// slowRisk returns the risk of a size, by its definition.
func slowRisk(table []injury.Step, size *big.Rat) int {
	for _, s := range slices.Backward(table) {
		if rational(s.From).Cmp(size) <= 0 {
			return s.Risk
		}
	}
	return 0
}

func TestRisksByTheirDefinition(t *testing.T) {
	r := dice(7)
	for range 3000 {
		table, b := someTable(r), someBounds(r)
		what := fmt.Sprintf(" of %v by %v", b, table)
		low, high := slowRisk(table, rational(b.Low)), slowRisk(table, rational(b.High))
		risk, e := injury.Risk(table, b.Low)
		wantOK(t, "Risk"+what, risk, e, low)
		if b.Open {
			high = table[len(table)-1].Risk
		}
		both, e := injury.RiskBounds(table, b)
		wantOK(t, "RiskBounds"+what, both, e, to(low, high))
	}
}

func TestRanksByTheNumberOfThoseBefore(t *testing.T) {
	r := dice(8)
	for range 3000 {
		l := someSizes(r)
		ranks := make([]int, len(l))
		for i, x := range l {
			before := 0
			for j, y := range l {
				if order := rational(y).Cmp(rational(x)); order < 0 || order == 0 && j < i {
					before++
				}
			}
			ranks[before] = i
		}
		got, e := injury.Ranked(l)
		wantOK(t, fmt.Sprintf("Ranked of %v", l), got, e, ranks)
		median, e := injury.Median(l)
		wantOK(t, fmt.Sprintf("Median of %v", l), median, e, l[ranks[(len(l)-1)/2]])
	}
}
