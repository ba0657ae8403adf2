package restraint_test

import (
	"fmt"
	"math/rand/v2"
	"slices"
	"testing"

	"crumple/api"
	"crumple/restraint"
)

// P7.5 (consequences): what follows from the results, for many inputs; the dice are the same on each run.

func TestLongerRunsBeginWithShorterOnes(t *testing.T) {
	r := dice(10)
	for range 300 {
		m, p, speed := someModel(r), someSet(r), someSpeed(r)
		long, e := restraint.Run(m, p, speed)
		want(t, "Run", e, api.OK)
		want(t, "the number of states", len(long), m.Steps+1)
		for n := 1; n < m.Steps; n += between(r, 1, m.Steps) {
			short, e := restraint.Run(steps(m, n), p, speed)
			wantOK(t, fmt.Sprintf("Run of %v with %v at %d, with %d steps", m, p, speed, n), short, e, long[:n+1])
		}
	}
}

func TestCarsKeepTheirSpeedsAndBeltsTheirLimits(t *testing.T) {
	r := dice(11)
	free, held := 0, 0
	for range 2000 {
		m, p, speed := someModel(r), someSet(r), someSpeed(r)
		what := fmt.Sprintf(" of %v with %v at %d", m, p, speed)
		run, e := restraint.Run(m, p, speed)
		want(t, "Run"+what, e, api.OK)
		met := false
		for i, s := range run {
			met = met || s.Front > 0
			if !met {
				want(t, "the car's speed"+what, s.CarSpeed, speed)
				free++
			}
			if i > 0 && s.Front == 0 {
				want(t, "the car's speed after a step without a force"+what, s.CarSpeed, run[i-1].CarSpeed)
			}
			want(t, "whether the belt's force is above its limit"+what, s.Belt > p.Limit, false)
			if s.Belt > 0 && s.Belt == p.Limit {
				held++
			}
		}
	}
	want(t, "whether many steps are without a force, and many belts at their limits", min(free, held) > 1000, true)
}

// within reports whether an interval lies in another one.
func within(whole, part api.Interval) bool { return whole.Low <= part.Low && part.High <= whole.High }

func TestACaseIsExplainedByTheSetThatMakesIt(t *testing.T) {
	r := dice(12)
	for range 500 {
		m, g := someModel(r), someGrid(r)
		p, speed := one(r, allSets(g)), someSpeed(r)
		answers, e := restraint.Answers(m, p, speed)
		want(t, "Answers", e, api.OK)
		c := restraint.Case{Name: "c", Speed: speed}
		for i, x := range answers {
			c.Answers[i] = to(x, x)
		}
		if slices.Max(answers[:]) > restraint.MaxAnswer {
			continue
		}
		what := fmt.Sprintf(" of %v with %v for %v", m, p, c)
		explains, e := restraint.Explains(m, p, c)
		wantOK(t, "Explains"+what, explains, e, true)
		predicted, e := restraint.Predicted(m, g, []restraint.Case{c}, speed)
		wantOK(t, "Predicted"+what, predicted, e, c.Answers)
		// Also together with other cases that this set makes, and at other speeds.
		l := []restraint.Case{c, made(r, "d", m, p, someSpeed(r), 0), made(r, "e", m, p, someSpeed(r), 9)}
		if !slowExplains(m, p, l[1]) || !slowExplains(m, p, l[2]) {
			continue
		}
		for _, n := range []int{speed, l[1].Speed, someSpeed(r)} {
			predicted, e = restraint.Predicted(m, g, l, n)
			want(t, "Predicted"+what, e, api.OK)
			answers, e = restraint.Answers(m, p, n)
			want(t, "Answers"+what, e, api.OK)
			for i, x := range answers {
				want(t, fmt.Sprintf("whether %d is in %v", x, predicted[i])+what, within(predicted[i], to(x, x)), true)
			}
		}
	}
}

func TestPredictionsContainTheAnswersOfAllSetsThatRemain(t *testing.T) {
	r := dice(13)
	for range 200 {
		m, g := someModel(r), someGrid(r)
		l, speed := someCases(r, m, g), someSpeed(r)
		remaining, e := restraint.Remaining(m, g, l)
		want(t, "Remaining", e, api.OK)
		predicted, e := restraint.Predicted(m, g, l, speed)
		want(t, "whether a prediction is there", e == api.OK, len(remaining) > 0)
		for _, p := range remaining {
			answers, e := restraint.Answers(m, p, speed)
			want(t, "Answers", e, api.OK)
			for i, x := range answers {
				want(t, fmt.Sprintf("whether %d is in %v, of %v with %v", x, predicted[i], m, p), within(predicted[i], to(x, x)), true)
			}
		}
	}
}

func TestFurtherCasesLeaveNoMoreSets(t *testing.T) {
	r := dice(14)
	fewer := 0
	for range 400 {
		m, g := someModel(r), someGrid(r)
		l, speed := someCases(r, m, g), someSpeed(r)
		what := fmt.Sprintf(" of %v with %v for %v", m, g, l)
		before, wide := allSets(g), [3]api.Interval{}
		for n := range l {
			after, e := restraint.Remaining(m, g, l[:n+1])
			want(t, "Remaining"+what, e, api.OK)
			kept := slices.DeleteFunc(slices.Clone(before), func(p restraint.Set) bool { return !slices.Contains(after, p) })
			want(t, "those that remained before, too"+what, kept, after)
			if len(after) < len(before) {
				fewer++
			}
			before = after
			if len(after) == 0 {
				break
			}
			predicted, e := restraint.Predicted(m, g, l[:n+1], speed)
			want(t, "Predicted"+what, e, api.OK)
			for i, x := range predicted {
				if n > 0 {
					want(t, "whether the prediction is no wider"+what, within(wide[i], x), true)
				}
			}
			wide = predicted
		}
	}
	want(t, "whether many sets go", fewer > 200, true)
}

func TestSetsRemainIfTheirMisfitsAreZero(t *testing.T) {
	r := dice(15)
	for range 300 {
		m, g := someModel(r), someGrid(r)
		l := someCases(r, m, g)
		what := fmt.Sprintf(" of %v with %v for %v", m, g, l)
		remaining, e := restraint.Remaining(m, g, l)
		want(t, "Remaining"+what, e, api.OK)
		least := -1
		for _, p := range allSets(g) {
			sum := 0
			for _, c := range l {
				misfit, e := restraint.Misfit(m, p, c)
				want(t, "Misfit"+what, e, api.OK)
				sum += misfit
			}
			want(t, fmt.Sprintf("whether %v remains", p)+what, slices.Contains(remaining, p), sum == 0)
			if least < 0 || sum < least {
				least = sum
			}
		}
		_, misfit, e := restraint.Best(m, g, l)
		wantOK(t, "the sum of the misfits of the best set"+what, misfit, e, least)
		conflicts, e := restraint.Conflicts(m, g, l)
		want(t, "Conflicts"+what, e, api.OK)
		for i, a := range l {
			for j, b := range l[i:] {
				alone := []restraint.Case{a, b}
				if j == 0 {
					alone = alone[:1]
				}
				both, e := restraint.Remaining(m, g, alone)
				want(t, "Remaining of two"+what, e, api.OK)
				want(t, fmt.Sprintf("whether %d and %d conflict", i, i+j)+what, slices.Contains(conflicts, [2]int{i, i + j}), len(both) == 0)
			}
		}
	}
}

// found is the results of all searches whose results do not name a case.
func found(t *testing.T, m restraint.Model, g grid, l []restraint.Case, speed int) string {
	t.Helper()
	remaining, e := restraint.Remaining(m, g, l)
	want(t, "Remaining", e, api.OK)
	values, e := restraint.Values(m, g, l)
	want(t, "Values", e, api.OK)
	best, misfit, e := restraint.Best(m, g, l)
	want(t, "Best", e, api.OK)
	predicted, infeasible := restraint.Predicted(m, g, l, speed)
	second, none := restraint.Second(m, g, l)
	return fmt.Sprint(remaining, values, best, misfit, predicted, infeasible, second, none)
}

func TestTheOrderOfCasesDoesNotMatter(t *testing.T) {
	r := dice(16)
	for range 200 {
		m, g := someModel(r), someGrid(r)
		l, speed := someCases(r, m, g), someSpeed(r)
		order := r.Perm(len(l))
		var other []restraint.Case
		for _, i := range order {
			other = append(other, l[i])
		}
		what := fmt.Sprintf(" of %v with %v for %v in the order %v", m, g, l, order)
		want(t, "the results"+what, found(t, m, g, other, speed), found(t, m, g, l, speed))
		conflicts, e := restraint.Conflicts(m, g, l)
		want(t, "Conflicts"+what, e, api.OK)
		others, e := restraint.Conflicts(m, g, other)
		want(t, "Conflicts"+what, e, api.OK)
		for i, x := range others {
			a, b := order[x[0]], order[x[1]]
			others[i] = [2]int{min(a, b), max(a, b)}
		}
		slices.SortFunc(others, func(a, b [2]int) int { return slices.Compare(a[:], b[:]) })
		want(t, "the conflicts"+what, others, conflicts)
		for i, at := range order {
			a, e := restraint.Foretold(m, g, other, i)
			b, f := restraint.Foretold(m, g, l, at)
			want(t, "Foretold"+what, pair[bool, api.Errno]{a, e}, pair[bool, api.Errno]{b, f})
		}
	}
}

// madeAlone returns some cases that one set makes.
func madeAlone(r *rand.Rand, m restraint.Model, p restraint.Set) []restraint.Case {
	var l []restraint.Case
	for i := range between(r, 2, 4) {
		c := made(r, fmt.Sprintf("c%d", i), m, p, someSpeed(r), one(r, []int{0, 0, 5}))
		if slowExplains(m, p, c) {
			l = append(l, c)
		}
	}
	return l
}

func TestCasesThatOneSetMakesAreForetold(t *testing.T) {
	r := dice(17)
	told := 0
	for range 500 {
		m, g := someModel(r), someGrid(r)
		l := madeAlone(r, m, one(r, allSets(g)))
		for i := range l {
			if len(l) > 1 {
				foretold, e := restraint.Foretold(m, g, l, i)
				wantOK(t, fmt.Sprintf("Foretold of %v with %v for %v at %d", m, g, l, i), foretold, e, true)
				told++
			}
		}
	}
	want(t, "whether many are foretold", told > 1000, true)
}

func TestModelsAreParsedAsTheyWerePrinted(t *testing.T) {
	r := dice(18)
	for range 2000 {
		m := someModel(r)
		s, e := restraint.Print(m)
		want(t, "Print", e, api.OK)
		again, i, e := restraint.Parse(s)
		wantOK(t, fmt.Sprintf("Parse of %q", s), again, e, m)
		want(t, "the index of Parse", i, 0)
	}
}
