package restraint

import (
	"cmp"
	"slices"

	"crumple/api"
	"crumple/check"
	"crumple/interval"
	"crumple/lists"
)

// fitted is a set with the sum of its misfits for some cases.
type fitted struct {
	Set
	misfit int
}

// predicted returns, for each answer, the interval from the least to the greatest one of some sets.
func (m Model) predicted(l []Set, speed int) [3]api.Interval {
	answers := lists.Mapped(l, func(p Set) [3]int { return m.answers(p, speed) })
	var predicted [3]api.Interval
	for i := range predicted {
		all := lists.Mapped(answers, func(x [3]int) int { return x[i] })
		predicted[i] = api.Interval{Low: slices.Min(all), High: slices.Max(all)}
	}
	return predicted
}

// Predicted returns the prediction at a speed.
func Predicted(m Model, grid [3][]int, l []Case, speed int) ([3]api.Interval, api.Errno) {
	if e := check.First(checkSearch(m, grid, l), checkSpeed(speed)); e != api.OK {
		return [3]api.Interval{}, e
	}
	remaining := m.remaining(grid, l...)
	if len(remaining) == 0 {
		return [3]api.Interval{}, api.ErrInfeasible
	}
	return m.predicted(remaining, speed), api.OK
}

// compare compares two sets by their misfits; of two with one misfit the first one of a grid is the lesser.
func (f fitted) compare(other fitted) int {
	return cmp.Or(
		cmp.Compare(f.misfit, other.misfit),
		cmp.Compare(f.Slack, other.Slack),
		cmp.Compare(f.Limit, other.Limit),
		cmp.Compare(f.Delay, other.Delay),
	)
}

// fit returns the sets of a grid with the sums of their misfits for some cases.
func (m Model) fit(grid [3][]int, l []Case) []fitted {
	return lists.Mapped(sets(grid), func(p Set) fitted {
		f := fitted{Set: p}
		for _, c := range l {
			f.misfit += m.misfit(p, c)
		}
		return f
	})
}

// Best returns the best set, and the sum of its misfits.
func Best(m Model, grid [3][]int, l []Case) (Set, int, api.Errno) {
	if e := checkSearch(m, grid, l); e != api.OK {
		return Set{}, 0, e
	}
	best := slices.MinFunc(m.fit(grid, l), fitted.compare)
	return best.Set, best.misfit, api.OK
}

// Second returns the second misfit.
func Second(m Model, grid [3][]int, l []Case) (int, api.Errno) {
	if e := checkSearch(m, grid, l); e != api.OK {
		return 0, e
	}
	all := m.fit(grid, l)
	best := slices.MinFunc(all, fitted.compare)
	others := lists.Kept(all, func(f fitted) bool { return f.Set != best.Set })
	if len(others) == 0 {
		return 0, api.ErrNone
	}
	return slices.MinFunc(others, fitted.compare).misfit, api.OK
}

// Foretold reports whether a case is foretold by the others.
func Foretold(m Model, grid [3][]int, l []Case, index int) (bool, api.Errno) {
	e := check.First(
		checkSearch(m, grid, l),
		check.When(index < 0 || index >= len(l), api.ErrUnknown),
		check.When(len(l) == 1, api.ErrShort),
	)
	if e != api.OK {
		return false, e
	}
	others := slices.Delete(slices.Clone(l), index, index+1)
	remaining := m.remaining(grid, others...)
	if len(remaining) == 0 {
		return false, api.ErrInfeasible
	}
	for i, x := range m.predicted(remaining, l[index].Speed) {
		if !interval.Meet(x, l[index].Answers[i]) {
			return false, api.OK
		}
	}
	return true, api.OK
}
