package restraint_test

import (
	"math/big"
	"slices"

	"crumple/api"
	"crumple/restraint"
)

// A second reading of the chapter's definitions, word by word and slowly; quotients are rational numbers.

// slowDown returns a quotient, rounded down.
func slowDown(a, b int) int {
	x := big.NewRat(int64(a), int64(b))
	floor := new(big.Int).Quo(x.Num(), x.Denom())
	if new(big.Rat).SetInt(floor).Cmp(x) > 0 {
		floor.Sub(floor, big.NewInt(1))
	}
	return int(floor.Int64())
}

// slowForce returns the force of a spring at a way.
func slowForce(s restraint.Spring, way int) int {
	if way <= 0 {
		return 0
	}
	for _, p := range s {
		if p.X == way {
			return p.Y
		}
	}
	for i, b := range s {
		if i > 0 && s[i-1].X < way && way < b.X {
			a := s[i-1]
			return a.Y + slowDown((b.Y-a.Y)*(way-a.X), b.X-a.X)
		}
	}
	return s[len(s)-1].Y
}

// slowRun returns the states of a run.
func slowRun(m restraint.Model, p restraint.Set, speed int) []restraint.State {
	l := []restraint.State{{CarSpeed: speed, Speed: speed}}
	for step := 1; step <= m.Steps; step++ {
		last := l[step-1]
		x, way := last.CarWay+last.CarSpeed, last.Way+last.Speed
		d := way - x
		front := slowForce(m.Front, x)
		belt := slowForce(m.Belt, d-p.Slack)
		if belt > p.Limit {
			belt = p.Limit
		}
		bag := slowForce(m.Bag, d-m.Gap)
		if step <= p.Delay {
			bag = 0
		}
		l = append(l, restraint.State{CarWay: x, CarSpeed: last.CarSpeed - slowDown(front, m.Car), Way: way, Speed: last.Speed - slowDown(belt+bag, m.Occupant), Front: front, Belt: belt, Bag: bag})
	}
	return l
}

// slowAnswers returns the answers of a run.
func slowAnswers(m restraint.Model, p restraint.Set, speed int) [3]int {
	var belts, leads, losses []int
	run := slowRun(m, p, speed)
	for i, s := range run {
		belts, leads, losses = append(belts, s.Belt), append(leads, s.Way-s.CarWay), append(losses, 0)
		if i > 0 {
			losses = append(losses, run[i-1].Speed-s.Speed)
		}
	}
	return [3]int{slices.Max(belts), slices.Max(leads), slices.Max(losses)}
}

// slowMisfit returns the misfit of a set for a case.
func slowMisfit(m restraint.Model, p restraint.Set, c restraint.Case) int {
	sum := 0
	for i, x := range slowAnswers(m, p, c.Speed) {
		switch {
		case x < c.Answers[i].Low:
			sum += c.Answers[i].Low - x
		case x > c.Answers[i].High:
			sum += x - c.Answers[i].High
		}
	}
	return sum
}

// slowExplains reports whether a set explains a case.
func slowExplains(m restraint.Model, p restraint.Set, c restraint.Case) bool {
	for i, x := range slowAnswers(m, p, c.Speed) {
		if x < c.Answers[i].Low || x > c.Answers[i].High {
			return false
		}
	}
	return true
}

// slowRemaining returns the sets that remain.
func slowRemaining(m restraint.Model, g grid, l []restraint.Case) []restraint.Set {
	var remaining []restraint.Set
	for _, p := range allSets(g) {
		explained := 0
		for _, c := range l {
			if slowExplains(m, p, c) {
				explained++
			}
		}
		if explained == len(l) {
			remaining = append(remaining, p)
		}
	}
	return remaining
}

// slowValues returns the values of all sets that remain.
func slowValues(m restraint.Model, g grid, l []restraint.Case) grid {
	var values grid
	for _, p := range slowRemaining(m, g, l) {
		for i, x := range [3]int{p.Slack, p.Limit, p.Delay} {
			if !slices.Contains(values[i], x) {
				values[i] = append(values[i], x)
			}
		}
	}
	for i := range values {
		slices.Sort(values[i])
	}
	return values
}

// slowConflicts returns the pairs of cases that conflict.
func slowConflicts(m restraint.Model, g grid, l []restraint.Case) [][2]int {
	var pairs [][2]int
	for i := range l {
		for j := range l {
			if i <= j && len(slowRemaining(m, g, []restraint.Case{l[i], l[j]})) == 0 {
				pairs = append(pairs, [2]int{i, j})
			}
		}
	}
	return pairs
}

// slowPredicted returns the prediction at a speed, and whether a set remains.
func slowPredicted(m restraint.Model, g grid, l []restraint.Case, speed int) ([3]api.Interval, bool) {
	var predicted [3]api.Interval
	remaining := slowRemaining(m, g, l)
	for n, p := range remaining {
		for i, x := range slowAnswers(m, p, speed) {
			if n == 0 || x < predicted[i].Low {
				predicted[i].Low = x
			}
			if n == 0 || x > predicted[i].High {
				predicted[i].High = x
			}
		}
	}
	return predicted, len(remaining) > 0
}

// slowFits returns the sums of the misfits of all sets, in their order.
func slowFits(m restraint.Model, g grid, l []restraint.Case) []fit {
	var fits []fit
	for _, p := range allSets(g) {
		sum := 0
		for _, c := range l {
			sum += slowMisfit(m, p, c)
		}
		fits = append(fits, fit{p, sum})
	}
	return fits
}

// slowForetold reports whether a case is foretold by the others, and whether a set explains these.
func slowForetold(m restraint.Model, g grid, l []restraint.Case, index int) (bool, bool) {
	var others []restraint.Case
	for i, c := range l {
		if i != index {
			others = append(others, c)
		}
	}
	predicted, ok := slowPredicted(m, g, others, l[index].Speed)
	common := 0
	for i, x := range predicted {
		if x.Low <= l[index].Answers[i].High && l[index].Answers[i].Low <= x.High {
			common++
		}
	}
	return ok && common == 3, ok
}
