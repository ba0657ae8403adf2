package injury

import (
	"slices"

	"crumple/api"
	"crumple/check"
	"crumple/quotient"
)

// checkTable returns the first error of a risk table, or OK.
func checkTable(table []Step) api.Errno {
	// All steps may come after this one.
	before := Step{From: whole(-1)}
	return check.First(check.Count(len(table), MaxSteps), check.Each(table, func(s Step) api.Errno {
		e := check.First(
			checkSize(s.From),
			check.Within(s.Risk, 0, MaxRisk),
			check.When(s.compare(before.From) <= 0 || s.Risk < before.Risk, api.ErrOrder),
		)
		before = s
		return e
	}))
}

// compare compares the size from which on a step counts with another one.
func (s Step) compare(size api.Ratio) int {
	return quotient.Compare(s.From, size)
}

// risk returns the risk of a size.
func risk(table []Step, size api.Ratio) int {
	count, next := slices.BinarySearchFunc(table, size, Step.compare)
	if next {
		count++
	}
	if count == 0 {
		return 0
	}
	return table[count-1].Risk
}

// Risk returns the risk of a worth.
func Risk(table []Step, worth api.Ratio) (int, api.Errno) {
	if e := check.First(checkTable(table), checkSize(worth)); e != api.OK {
		return 0, e
	}
	return risk(table, worth), api.OK
}

// RiskBounds returns the interval of the risk of bounds.
func RiskBounds(table []Step, b Bounds) (api.Interval, api.Errno) {
	if e := check.First(checkTable(table), b.check()); e != api.OK {
		return api.Interval{}, e
	}
	high := risk(table, b.High)
	if b.Open {
		high = table[len(table)-1].Risk
	}
	return api.Interval{Low: risk(table, b.Low), High: high}, api.OK
}
