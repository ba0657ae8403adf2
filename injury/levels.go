package injury

import (
	"slices"

	"crumple/api"
	"crumple/check"
	"crumple/interval"
	"crumple/lists"
)

// longest returns the first one of the longest spans whose integers are all at least a level.
func longest(l []int, level int) api.Span {
	var found api.Span
search:
	for from := range l {
		for to := from + 1; ; to++ {
			switch {
			case to > len(l):
				// No later span is longer than one that reaches the end.
				break search
			case l[to-1] < level:
				continue search
			case to-from > found.To-found.From:
				found = api.Span{From: from, To: to}
			}
		}
	}
	return found
}

// Longest returns the longest span of a series from a level on.
func Longest(l []int, level int) (api.Span, api.Errno) {
	if e := check.First(CheckSeries(l), checkUnit(level)); e != api.OK {
		return api.Span{}, e
	}
	return longest(l, level), api.OK
}

// checkSamples returns the error of a number of samples, or OK.
func checkSamples(samples int) api.Errno {
	return check.Within(samples, 1, MaxSeries)
}

// held returns the level that a series holds for some samples, and the first index from which on it does; there are enough integers.
func held(l []int, samples int) (int, int) {
	var levels []int
	for w := range windows(len(l), interval.Only(samples)) {
		levels = append(levels, slices.Min(l[w.From:w.To]))
	}
	level := slices.Max(levels)
	return level, slices.Index(levels, level)
}

// Held returns the greatest level that a series holds for some samples, and where.
func Held(l []int, samples int) (int, api.Span, api.Errno) {
	if e := check.First(CheckSeries(l), checkSamples(samples), checkEnough(len(l), samples)); e != api.OK {
		return 0, api.Span{}, e
	}
	level, from := held(l, samples)
	return level, api.Span{From: from, To: from + samples}, api.OK
}

// Above returns how many samples of a series are at least a level.
func Above(l []int, level int) (int, api.Errno) {
	if e := check.First(CheckSeries(l), checkUnit(level)); e != api.OK {
		return 0, e
	}
	return len(lists.Kept(l, func(x int) bool { return x >= level })), api.OK
}
