package restraint

import (
	"slices"

	"crumple/api"
	"crumple/check"
	"crumple/lists"
)

// checkValues returns the first error of the values of a parameter, or OK.
func (x parameter) checkValues(l []int) api.Errno {
	// All values may come after this one.
	before := -1
	return check.First(check.Count(len(l), MaxGrid), check.Each(l, func(value int) api.Errno {
		e := check.First(x.checkValue(value), check.When(value <= before, api.ErrOrder))
		before = value
		return e
	}))
}

// CheckGrid returns the first error of a grid, or OK.
func CheckGrid(grid [3][]int) api.Errno {
	for i, x := range parameters() {
		if e := x.checkValues(grid[i]); e != api.OK {
			return e
		}
	}
	return api.OK
}

// sets returns the sets of a grid, in their order.
func sets(grid [3][]int) []Set {
	var l []Set
	for _, slack := range grid[0] {
		for _, limit := range grid[1] {
			for _, delay := range grid[2] {
				l = append(l, Set{Slack: slack, Limit: limit, Delay: delay})
			}
		}
	}
	return l
}

// Sets returns the sets of a grid.
func Sets(grid [3][]int) ([]Set, api.Errno) {
	if e := CheckGrid(grid); e != api.OK {
		return nil, e
	}
	return sets(grid), api.OK
}

// checkSearch returns the first error of a model, a grid and cases, or OK.
func checkSearch(m Model, grid [3][]int, l []Case) api.Errno {
	return check.First(CheckModel(m), CheckGrid(grid), CheckCases(l))
}

// remaining returns the sets of a grid that explain all of some cases.
func (m Model) remaining(grid [3][]int, l ...Case) []Set {
	return lists.Kept(sets(grid), func(p Set) bool {
		return !slices.ContainsFunc(l, func(c Case) bool { return !m.explains(p, c) })
	})
}

// Remaining returns the sets that remain.
func Remaining(m Model, grid [3][]int, l []Case) ([]Set, api.Errno) {
	if e := checkSearch(m, grid, l); e != api.OK {
		return nil, e
	}
	return m.remaining(grid, l...), api.OK
}

// Values returns the values of all sets that remain.
func Values(m Model, grid [3][]int, l []Case) ([3][]int, api.Errno) {
	if e := checkSearch(m, grid, l); e != api.OK {
		return [3][]int{}, e
	}
	remaining := m.remaining(grid, l...)
	var values [3][]int
	for i, x := range parameters() {
		taken := lists.Mapped(remaining, func(p Set) int { return *x.of(&p) })
		values[i] = slices.DeleteFunc(slices.Clone(grid[i]), func(value int) bool { return !slices.Contains(taken, value) })
	}
	return values, api.OK
}

// Conflicts returns the pairs of cases that conflict.
func Conflicts(m Model, grid [3][]int, l []Case) ([][2]int, api.Errno) {
	if e := checkSearch(m, grid, l); e != api.OK {
		return nil, e
	}
	explaining := lists.Mapped(l, func(c Case) []Set { return m.remaining(grid, c) })
	var conflicts [][2]int
	for i := range l {
	search:
		for j := i; j < len(l); j++ {
			for _, p := range explaining[i] {
				if slices.Contains(explaining[j], p) {
					continue search
				}
			}
			conflicts = append(conflicts, [2]int{i, j})
		}
	}
	return conflicts, api.OK
}
