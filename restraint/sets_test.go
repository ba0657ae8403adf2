package restraint_test

import (
	"fmt"
	"testing"

	"crumple/api"
	"crumple/restraint"
)

// P7.2 (sets): grids, sets that remain, and conflicts, with ordinary inputs, at their limits, and with their errors in their order.

// widest is a grid with as many values as are permitted.
func widest() grid {
	return grid{{0, 1, 2, 3, 4, 5, 6, restraint.MaxWay}, {0, 2, 4, 6, 8, 10, 12, restraint.MaxForce}, {0, 1, 2, 3, 4, 5, 6, restraint.MaxSteps}}
}

func TestCheckGridAndSets(t *testing.T) {
	for _, x := range []struct {
		g grid
		l []restraint.Set
	}{
		{four(), []restraint.Set{{0, 10, 2}, {0, 10, 3}, {1, 10, 2}, {1, 10, 3}}},
		{grid{{5}, {6}, {7}}, []restraint.Set{{5, 6, 7}}}, {grid{{0}, {0}, {0}}, []restraint.Set{{}}},
		{grid{{restraint.MaxWay}, {restraint.MaxForce}, {restraint.MaxSteps}}, []restraint.Set{{restraint.MaxWay, restraint.MaxForce, restraint.MaxSteps}}},
		{grid{{1, 4}, {2, 3}, {0, 9, 10}}, []restraint.Set{{1, 2, 0}, {1, 2, 9}, {1, 2, 10}, {1, 3, 0}, {1, 3, 9}, {1, 3, 10}, {4, 2, 0}, {4, 2, 9}, {4, 2, 10}, {4, 3, 0}, {4, 3, 9}, {4, 3, 10}}},
		{widest(), allSets(widest())},
	} {
		want(t, fmt.Sprintf("CheckGrid of %v", x.g), restraint.CheckGrid(x.g), api.OK)
		l, e := restraint.Sets(x.g)
		wantOK(t, fmt.Sprintf("Sets of %v", x.g), l, e, x.l)
	}
	want(t, "the number of the widest grid's sets", len(allSets(widest())), 512)
	for _, b := range badGrids() {
		what := fmt.Sprintf(" of %.99v", b.x)
		want(t, "CheckGrid"+what, restraint.CheckGrid(b.x), b.e)
		l, e := restraint.Sets(b.x)
		wantError(t, "Sets"+what, l, e, b.e)
	}
}

// never is a case that no set explains, slow one that each set of the chapter's grid explains.
func never() restraint.Case {
	return restraint.Case{Name: "never", Speed: 10, Answers: intervals(11, 11, 20, 30, 0, 99)}
}

func slow() restraint.Case { return anything("slow", 1) }

// three returns cases of which each two have a set that explains both.
func three() []restraint.Case {
	return []restraint.Case{
		{Name: "a", Speed: 2, Answers: intervals(4, 8, 2, 6, 4, 6)}, {Name: "b", Speed: 2, Answers: intervals(4, 8, 2, 4, 2, 4)}, {Name: "c", Speed: 2, Answers: intervals(4, 4, 4, 6, 2, 6)},
	}
}

func TestRemainingValuesAndConflicts(t *testing.T) {
	early := restraint.Case{Name: "early", Speed: 10, Answers: intervals(8, 8, 0, 99, 0, 99)}
	low := set(0, 8, 2)
	wide := grid{{0, 1}, {8, 10}, {2, 3}}
	for _, x := range []struct {
		g         grid
		l         []restraint.Case
		remaining []restraint.Set
		values    grid
		conflicts [][2]int
	}{
		{four(), []restraint.Case{late()}, []restraint.Set{{0, 10, 2}, {1, 10, 2}}, grid{{0, 1}, {10}, {2}}, nil},
		{four(), []restraint.Case{later()}, []restraint.Set{{0, 10, 3}, {1, 10, 3}}, grid{{0, 1}, {10}, {3}}, nil},
		{four(), []restraint.Case{late(), later()}, nil, grid{}, [][2]int{{0, 1}}},
		{four(), []restraint.Case{slow()}, allSets(four()), four(), nil},
		{four(), []restraint.Case{slow(), late()}, []restraint.Set{{0, 10, 2}, {1, 10, 2}}, grid{{0, 1}, {10}, {2}}, nil},
		{four(), []restraint.Case{late(), slow(), later()}, nil, grid{}, [][2]int{{0, 2}}},
		// A case that no set explains conflicts with itself, and with all others.
		{four(), []restraint.Case{never()}, nil, grid{}, [][2]int{{0, 0}}},
		{four(), []restraint.Case{slow(), never(), late()}, nil, grid{}, [][2]int{{0, 1}, {1, 1}, {1, 2}}},
		{four(), []restraint.Case{never(), later(), slow(), late()}, nil, grid{}, [][2]int{{0, 0}, {0, 1}, {0, 2}, {0, 3}, {1, 3}}},
		// Each two have a set that explains both: 0 10 2, 0 4 2 and 3 4 2; but none explains all three.
		{grid{{0, 3}, {4, 10}, {2}}, three(), nil, grid{}, nil},
		{grid{{0, 3}, {4, 10}, {2}}, three()[:2], []restraint.Set{{0, 10, 2}}, grid{{0}, {10}, {2}}, nil},
		{grid{{0, 3}, {4, 10}, {2}}, three()[1:], []restraint.Set{{0, 4, 2}}, grid{{0}, {4}, {2}}, nil},
		// The least and the greatest delay remain, but not the one between them: the third answers are 23, 25 and 5.
		{grid{{1}, {10}, {0, 2, 3}}, []restraint.Case{{Name: "a", Speed: 10, Answers: intervals(10, 10, 0, 99, 0, 24)}}, []restraint.Set{{1, 10, 0}, {1, 10, 3}}, grid{{1}, {10}, {0, 3}}, nil},
		{wide, []restraint.Case{early}, []restraint.Set{low, {0, 8, 3}, {1, 8, 2}, {1, 8, 3}}, grid{{0, 1}, {8}, {2, 3}}, nil},
		{wide, []restraint.Case{early, late()}, nil, grid{}, [][2]int{{0, 1}}},
	} {
		what := fmt.Sprintf(" of %v for %v", x.g, x.l)
		remaining, e := restraint.Remaining(car(), x.g, x.l)
		wantOK(t, "Remaining"+what, remaining, e, x.remaining)
		values, e := restraint.Values(car(), x.g, x.l)
		wantOK(t, "Values"+what, values, e, x.values)
		conflicts, e := restraint.Conflicts(car(), x.g, x.l)
		wantOK(t, "Conflicts"+what, conflicts, e, x.conflicts)
	}
}

func TestTheWidestSearch(t *testing.T) {
	l := many(restraint.MaxCases)
	m := steps(car(), restraint.MaxSteps)
	remaining, e := restraint.Remaining(m, widest(), l)
	wantOK(t, "Remaining", remaining, e, allSets(widest()))
	values, e := restraint.Values(m, widest(), l)
	wantOK(t, "Values", values, e, widest())
	conflicts, e := restraint.Conflicts(m, widest(), l)
	wantOK(t, "Conflicts", conflicts, e, nil)
	for i := range l {
		l[i].Answers[2] = to(-5, -1)
	}
	conflicts, e = restraint.Conflicts(m, widest(), l)
	want(t, "Conflicts", e, api.OK)
	want(t, "the number of conflicts if each one conflicts with itself", len(conflicts), 36)
}

// wantSearchErrors checks the error that all functions of a search return.
func wantSearchErrors(t *testing.T, what string, m restraint.Model, g grid, l []restraint.Case, wanted api.Errno) {
	t.Helper()
	remaining, e := restraint.Remaining(m, g, l)
	wantError(t, "Remaining of "+what, remaining, e, wanted)
	values, e := restraint.Values(m, g, l)
	wantError(t, "Values of "+what, values, e, wanted)
	conflicts, e := restraint.Conflicts(m, g, l)
	wantError(t, "Conflicts of "+what, conflicts, e, wanted)
	best, misfit, e := restraint.Best(m, g, l)
	wantError(t, "Best of "+what, fit{best, misfit}, e, wanted)
	second, e := restraint.Second(m, g, l)
	wantError(t, "Second of "+what, second, e, wanted)
	for _, n := range []int{1, 0} {
		predicted, e := restraint.Predicted(m, g, l, n)
		wantError(t, "Predicted of "+what, predicted, e, wanted)
		foretold, e := restraint.Foretold(m, g, l, 1-2*n)
		wantError(t, "Foretold of "+what, foretold, e, wanted)
		foretold, e = restraint.Foretold(m, g, l, n)
		wantError(t, "Foretold of "+what, foretold, e, wanted)
	}
}

func TestErrorsOfSearches(t *testing.T) {
	empty := grid{nil, {1}, {3, 2}}
	for _, b := range badModels() {
		wantSearchErrors(t, fmt.Sprint(b.x), b.x, four(), []restraint.Case{late()}, b.e)
		wantSearchErrors(t, fmt.Sprint(b.x), b.x, empty, nil, b.e)
	}
	for _, b := range badGrids() {
		wantSearchErrors(t, fmt.Sprintf("%.99v", b.x), car(), b.x, []restraint.Case{late(), later()}, b.e)
		wantSearchErrors(t, fmt.Sprintf("%.99v", b.x), car(), b.x, []restraint.Case{late(), late()}, b.e)
	}
	for _, b := range badCaseLists() {
		wantSearchErrors(t, fmt.Sprint(b.x), car(), four(), b.x, b.e)
	}
}

func TestSearchesByTheDefinition(t *testing.T) {
	r := dice(4)
	remained, conflicting, itself := 0, 0, 0
	for range 500 {
		m, g := someModel(r), someGrid(r)
		l := someCases(r, m, g)
		what := fmt.Sprintf(" of %v with %v for %v", m, g, l)
		remaining, e := restraint.Remaining(m, g, l)
		wantOK(t, "Remaining"+what, remaining, e, slowRemaining(m, g, l))
		values, e := restraint.Values(m, g, l)
		wantOK(t, "Values"+what, values, e, slowValues(m, g, l))
		conflicts, e := restraint.Conflicts(m, g, l)
		wantOK(t, "Conflicts"+what, conflicts, e, slowConflicts(m, g, l))
		if len(remaining) > 0 && len(remaining) < len(allSets(g)) {
			remained++
		}
		for _, x := range conflicts {
			if x[0] == x[1] {
				itself++
			} else {
				conflicting++
			}
		}
	}
	want(t, "whether some remain of many, many conflict, and some with themselves", remained > 50 && conflicting > 50 && itself > 20, true)
}
