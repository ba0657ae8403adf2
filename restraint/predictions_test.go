package restraint_test

import (
	"fmt"
	"testing"

	"crumple/api"
	"crumple/restraint"
)

// P7.3 (predictions): each function with ordinary inputs, at its limits, and with its errors in their order; those of the model, the grid and the cases are tested with the other searches.

// at1 returns a case at the speed 1 with the answers of the sets with the slack 1; those with the slack 0 have 4, 1 and 2.
func at1() restraint.Case {
	return restraint.Case{Name: "at1", Speed: 1, Answers: intervals(8, 8, 3, 3, 4, 4)}
}

func TestPredicted(t *testing.T) {
	// The front of this car begins so far away that it is met at high speeds alone, and then throws the car back.
	back := restraint.Model{Car: 1, Occupant: 1, Front: spring(0, 0, 500, 0, 501, restraint.MaxForce), Belt: spring(0, 0, 1, 9), Bag: spring(0, 0, 1, 0), Steps: restraint.MaxSteps}
	delays := grid{{1}, {10}, {0, 2, 3}}
	for _, x := range []struct {
		m         restraint.Model
		g         grid
		l         []restraint.Case
		speed     int
		predicted [3]api.Interval
	}{
		{car(), four(), []restraint.Case{late()}, 10, intervals(10, 10, 25, 25, 25, 25)}, {car(), four(), []restraint.Case{later()}, 10, intervals(10, 10, 25, 25, 5, 5)}, {car(), four(), []restraint.Case{slow()}, 10, intervals(10, 10, 25, 25, 5, 25)},
		{car(), four(), []restraint.Case{late()}, 1, intervals(4, 8, 1, 3, 2, 4)}, {car(), four(), []restraint.Case{at1()}, 1, intervals(8, 8, 3, 3, 4, 4)}, {car(), four(), []restraint.Case{slow(), at1(), late()}, 10, intervals(10, 10, 25, 25, 25, 25)},
		{car(), delays, []restraint.Case{slow()}, 10, intervals(10, 10, 13, 25, 5, 25)}, {car(), delays, []restraint.Case{{Name: "a", Speed: 10, Answers: intervals(10, 10, 0, 99, 0, 24)}}, 10, intervals(10, 10, 13, 25, 5, 23)},
		// A prediction may be beyond what a case can have measured.
		{back, grid{{0}, {0}, {0}}, []restraint.Case{{Name: "a", Speed: 1}}, 2, [3]api.Interval{}}, {back, grid{{0}, {0, 1}, {0}}, []restraint.Case{{Name: "a", Speed: 1}}, 1000, intervals(0, 1, 199000000-199*198/2, 199000000, 0, 1)},
	} {
		predicted, e := restraint.Predicted(x.m, x.g, x.l, x.speed)
		wantOK(t, fmt.Sprintf("Predicted of %v with %v for %v at %d", x.m, x.g, x.l, x.speed), predicted, e, x.predicted)
	}
}

func TestErrorsOfPredicted(t *testing.T) {
	for _, n := range outside(1, restraint.MaxSpeed) {
		for _, c := range []restraint.Case{late(), never()} {
			predicted, e := restraint.Predicted(car(), four(), []restraint.Case{c}, n)
			wantError(t, fmt.Sprintf("Predicted at %d", n), predicted, e, api.ErrRange)
		}
	}
	for _, l := range [][]restraint.Case{{never()}, {late(), later()}, {slow(), late(), never()}} {
		predicted, e := restraint.Predicted(car(), four(), l, restraint.MaxSpeed)
		wantError(t, fmt.Sprintf("Predicted of %v", l), predicted, e, api.ErrInfeasible)
	}
	predicted, e := restraint.Predicted(car(), grid{{0, 3}, {4, 10}, {2}}, three(), 1)
	wantError(t, "Predicted of three cases of which each two agree", predicted, e, api.ErrInfeasible)
}

func TestBestAndSecond(t *testing.T) {
	// The greatest belt force alone matters; of these sets it is the limit.
	belt := restraint.Case{Name: "belt", Speed: 10, Answers: intervals(9, 9, 0, 99, 0, 99)}
	for _, x := range []struct {
		g      grid
		l      []restraint.Case
		best   restraint.Set
		misfit int
		second int
	}{
		{four(), []restraint.Case{late()}, set(0, 10, 2), 0, 0}, {four(), []restraint.Case{later()}, set(0, 10, 3), 0, 0}, {four(), []restraint.Case{slow()}, set(0, 10, 2), 0, 0},
		{four(), []restraint.Case{late(), later()}, set(0, 10, 2), 20, 20}, {four(), []restraint.Case{never()}, set(0, 10, 2), 1, 1}, {four(), []restraint.Case{never(), later()}, set(0, 10, 3), 1, 1},
		{four(), []restraint.Case{at1()}, set(1, 10, 2), 0, 0}, {four(), []restraint.Case{at1(), late()}, set(1, 10, 2), 0, 4 + 2 + 2}, {four(), []restraint.Case{later(), never(), at1()}, set(1, 10, 3), 1, 9},
		// The misfits of all cases count together.
		{grid{{0}, {7, 8, 10}, {3}}, []restraint.Case{belt}, set(0, 8, 3), 1, 1}, {grid{{0}, {7, 10}, {3}}, []restraint.Case{belt}, set(0, 10, 3), 1, 2}, {grid{{0, 9}, {7, 8}, {3, 4}}, []restraint.Case{belt}, set(0, 8, 3), 1, 1},
		{grid{{0, 1}, {10}, {2}}, []restraint.Case{at1(), {Name: "a", Speed: 1, Answers: intervals(4, 4, 1, 1, 0, 2)}, {Name: "b", Speed: 1, Answers: intervals(4, 4, 0, 1, 2, 9)}}, set(0, 10, 2), 8, 4 + 2 + 2 + 4 + 2},
		{grid{{0, 1}, {10}, {2}}, []restraint.Case{{Name: "a", Speed: 1, Answers: intervals(5, 5, 1, 1, 0, 4)}}, set(0, 10, 2), 1, 5},
	} {
		what := fmt.Sprintf(" of %v for %v", x.g, x.l)
		best, misfit, e := restraint.Best(car(), x.g, x.l)
		wantOK(t, "Best"+what, fit{best, misfit}, e, fit{x.best, x.misfit})
		second, e := restraint.Second(car(), x.g, x.l)
		wantOK(t, "Second"+what, second, e, x.second)
	}
	// Of one set alone there is a best one, but no second one.
	for misfit, c := range map[int]restraint.Case{4 + 22: late(), 5: never(), 0: slow()} {
		best, sum, e := restraint.Best(car(), grid{{5}, {6}, {7}}, []restraint.Case{c})
		wantOK(t, "Best of one set", fit{best, sum}, e, fit{set(5, 6, 7), misfit})
		second, e := restraint.Second(car(), grid{{5}, {6}, {7}}, []restraint.Case{c})
		wantError(t, "Second of one set", second, e, api.ErrNone)
	}
}

func TestForetold(t *testing.T) {
	of := func(a, b, c, d, e, f int) restraint.Case {
		return restraint.Case{Name: "c", Speed: 1, Answers: intervals(a, b, c, d, e, f)}
	}
	// By late the prediction at 1 is 4 to 8, 1 to 3 and 2 to 4.
	for _, x := range []struct {
		c        restraint.Case
		foretold bool
	}{
		{at1(), true}, {slow(), true}, {later(), false}, {never(), false}, {of(4, 8, 1, 3, 2, 4), true}, {of(8, 9, 0, 1, 4, 9), true}, {of(0, 4, 3, 9, 0, 2), true}, {of(5, 5, 2, 2, 3, 3), true},
		{of(9, 9, 1, 3, 2, 4), false}, {of(0, 3, 1, 3, 2, 4), false}, {of(4, 8, 4, 9, 2, 4), false}, {of(4, 8, -9, 0, 2, 4), false}, {of(4, 8, 1, 3, 5, 5), false}, {of(4, 8, 1, 3, 0, 1), false},
	} {
		foretold, e := restraint.Foretold(car(), four(), []restraint.Case{late(), x.c}, 1)
		wantOK(t, fmt.Sprintf("Foretold of %v", x.c), foretold, e, x.foretold)
		foretold, e = restraint.Foretold(car(), four(), []restraint.Case{x.c, late()}, 0)
		wantOK(t, fmt.Sprintf("Foretold of %v, before the other one", x.c), foretold, e, x.foretold)
	}
	// In the middle of others, which are not changed by it.
	for _, x := range []struct {
		l        []restraint.Case
		index    int
		foretold bool
	}{
		{[]restraint.Case{slow(), late(), at1()}, 0, true}, {[]restraint.Case{slow(), late(), at1()}, 1, true}, {[]restraint.Case{slow(), late(), at1()}, 2, true}, {[]restraint.Case{slow(), late(), later()}, 1, false}, {[]restraint.Case{slow(), late(), later()}, 2, false}, {[]restraint.Case{slow(), never(), late()}, 1, false},
	} {
		foretold, e := restraint.Foretold(car(), four(), x.l, x.index)
		wantOK(t, fmt.Sprintf("Foretold of %v at %d", x.l, x.index), foretold, e, x.foretold)
	}
}

func TestErrorsOfForetold(t *testing.T) {
	for _, l := range [][]restraint.Case{{late()}, {never()}, {late(), later(), never()}} {
		for _, n := range append([]int{-1, len(l), len(l) + 1}, far...) {
			foretold, e := restraint.Foretold(car(), four(), l, n)
			wantError(t, fmt.Sprintf("Foretold of %v at %d", l, n), foretold, e, api.ErrUnknown)
		}
	}
	for _, c := range []restraint.Case{late(), never()} {
		foretold, e := restraint.Foretold(car(), four(), []restraint.Case{c}, 0)
		wantError(t, fmt.Sprintf("Foretold of %v alone", c), foretold, e, api.ErrShort)
	}
	for _, x := range []struct {
		l     []restraint.Case
		index int
	}{
		{[]restraint.Case{never(), late()}, 1}, {[]restraint.Case{late(), later(), slow()}, 2}, {[]restraint.Case{never(), slow(), late()}, 1}, {append([]restraint.Case{anything("other", 7)}, late(), later()), 0},
	} {
		foretold, e := restraint.Foretold(car(), four(), x.l, x.index)
		wantError(t, fmt.Sprintf("Foretold of %v at %d", x.l, x.index), foretold, e, api.ErrInfeasible)
	}
}

func TestPredictionsByTheDefinition(t *testing.T) {
	r := dice(5)
	predictions, tied, foretelling := map[bool]int{}, 0, map[bool]int{}
	for range 600 {
		m, g := someModel(r), someGrid(r)
		l, speed := someCases(r, m, g), someSpeed(r)
		what := fmt.Sprintf(" of %v with %v for %v", m, g, l)
		predicted, e := restraint.Predicted(m, g, l, speed)
		slowly, feasible := slowPredicted(m, g, l, speed)
		predictions[feasible]++
		if feasible {
			wantOK(t, "Predicted"+what, predicted, e, slowly)
		} else {
			wantError(t, "Predicted"+what, predicted, e, api.ErrInfeasible)
		}
		if wantFits(t, what, m, g, l) {
			tied++
		}
		for i := range l {
			foretold, e := restraint.Foretold(m, g, l, i)
			slowly, feasible := slowForetold(m, g, l, i)
			switch {
			case len(l) == 1:
				wantError(t, "Foretold"+what, foretold, e, api.ErrShort)
			case !feasible:
				wantError(t, "Foretold"+what, foretold, e, api.ErrInfeasible)
			default:
				wantOK(t, fmt.Sprintf("Foretold at %d", i)+what, foretold, e, slowly)
				foretelling[foretold]++
			}
		}
	}
	want(t, "whether many are predicted, tied, and foretold, and many are not", min(predictions[true], predictions[false], tied, foretelling[true], foretelling[false]) > 50, true)
}

// wantFits checks the best set and the second misfit by the misfits of all sets; it reports whether several sets are the best ones.
func wantFits(t *testing.T, what string, m restraint.Model, g grid, l []restraint.Case) bool {
	t.Helper()
	fits := slowFits(m, g, l)
	first := 0
	for i, f := range fits {
		if f.second < fits[first].second {
			first = i
		}
	}
	best, misfit, e := restraint.Best(m, g, l)
	wantOK(t, "Best"+what, fit{best, misfit}, e, fits[first])
	second, e := restraint.Second(m, g, l)
	if len(fits) == 1 {
		wantError(t, "Second"+what, second, e, api.ErrNone)
		return false
	}
	least := -1
	for i, f := range fits {
		if i != first && (least < 0 || f.second < least) {
			least = f.second
		}
	}
	wantOK(t, "Second"+what, second, e, least)
	return least == misfit
}
