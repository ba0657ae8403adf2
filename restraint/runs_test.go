package restraint_test

import (
	"fmt"
	"testing"

	"crumple/api"
	"crumple/restraint"
)

// P7.1 (runs): springs, models, sets and runs with ordinary inputs, at their limits, and with their errors in their order.

func TestLimits(t *testing.T) {
	limits := []int{restraint.MaxPoints, restraint.MaxWay, restraint.MaxForce, restraint.MaxMass, restraint.MaxSteps, restraint.MaxSpeed, restraint.MaxGrid, restraint.MaxCases, restraint.MaxAnswer}
	want(t, "the limits", limits, []int{8, 100000, 1000000, 100000, 200, 1000, 8, 8, 100000000})
}

func TestCheckSpring(t *testing.T) {
	for _, s := range []restraint.Spring{
		car().Front, spring(0, 0, 1, 0), spring(0, 0, restraint.MaxWay, restraint.MaxForce), spring(0, restraint.MaxForce, 1, 0), spring(0, 5, 1, 4, 2, 3, 3, 3, 4, 9, 5, 0, 6, 1, restraint.MaxWay, 2),
	} {
		want(t, fmt.Sprintf("CheckSpring of %v", s), restraint.CheckSpring(s), api.OK)
	}
	for _, b := range badSprings() {
		what := fmt.Sprintf(" of %v", b.x)
		want(t, "CheckSpring"+what, restraint.CheckSpring(b.x), b.e)
		for _, way := range []int{0, 5, far[0]} {
			force, e := restraint.Force(b.x, way)
			wantError(t, "Force"+what, force, e, b.e)
		}
	}
}

func TestForce(t *testing.T) {
	const most = restraint.MaxAnswer
	falling := spring(0, 10, 3, 0, 5, 0, 12, 5, 15, 4)
	greatest := spring(0, 0, restraint.MaxWay-1, restraint.MaxForce, restraint.MaxWay, 0)
	for _, x := range []struct {
		s          restraint.Spring
		way, force int
	}{
		{car().Front, -3, 0}, {car().Front, 0, 0}, {car().Front, 5, 50}, {car().Front, 10, 100}, {car().Front, 99, 100}, {car().Belt, 3, 12}, {car().Belt, 1, 4}, {car().Belt, 5, 20}, {car().Belt, 6, 20}, {car().Bag, 9, 36},
		{car().Front, -most, 0}, {car().Front, most, 100}, {car().Front, 11, 100}, {car().Front, 9, 90}, {car().Front, 1, 10},
		// At 0 there is no force, whatever the first point is; down is towards minus infinity, also on a way down.
		{falling, 0, 0}, {falling, -1, 0}, {falling, 1, 6}, {falling, 2, 3}, {falling, 3, 0}, {falling, 4, 0}, {falling, 5, 0}, {falling, 6, 0}, {falling, 7, 1}, {falling, 8, 2}, {falling, 9, 2}, {falling, 10, 3}, {falling, 11, 4}, {falling, 12, 5}, {falling, 13, 4}, {falling, 14, 4}, {falling, 15, 4}, {falling, 16, 4},
		{greatest, 1, 10}, {greatest, 50000, 500005}, {greatest, restraint.MaxWay - 2, 999989}, {greatest, restraint.MaxWay - 1, restraint.MaxForce}, {greatest, restraint.MaxWay, 0}, {greatest, restraint.MaxWay + 1, 0},
		{spring(0, 7, 1, 9), 0, 0}, {spring(0, 7, 1, 9), 1, 9}, {spring(0, 7, 1, 9), 2, 9},
	} {
		force, e := restraint.Force(x.s, x.way)
		wantOK(t, fmt.Sprintf("Force of %v at %d", x.s, x.way), force, e, x.force)
	}
	for _, n := range outside(-most, most) {
		force, e := restraint.Force(car().Front, n)
		wantError(t, fmt.Sprintf("Force at %d", n), force, e, api.ErrRange)
	}
}

func TestForcesByTheDefinition(t *testing.T) {
	r := dice(1)
	for range 2000 {
		s := someSpring(r, one(r, []int{5, 40, restraint.MaxForce}))
		for way := -2; way < s[len(s)-1].X+3; way++ {
			force, e := restraint.Force(s, way)
			wantOK(t, fmt.Sprintf("Force of %v at %d", s, way), force, e, slowForce(s, way))
		}
	}
}

func TestCheckModel(t *testing.T) {
	least := restraint.Model{Car: 1, Occupant: 1, Front: car().Front, Belt: car().Belt, Bag: car().Bag, Steps: 1}
	greatest := restraint.Model{Car: restraint.MaxMass, Occupant: restraint.MaxMass, Front: car().Front, Belt: car().Belt, Bag: car().Bag, Gap: restraint.MaxWay, Steps: restraint.MaxSteps}
	for _, m := range []restraint.Model{car(), least, greatest} {
		want(t, fmt.Sprintf("CheckModel of %v", m), restraint.CheckModel(m), api.OK)
	}
	for _, b := range badModels() {
		what := fmt.Sprintf(" of %v", b.x)
		want(t, "CheckModel"+what, restraint.CheckModel(b.x), b.e)
		// A set and a speed that are wrong come after the model.
		for _, p := range []restraint.Set{set(1, 10, 2), set(-1, 0, 0)} {
			for _, speed := range []int{10, 0} {
				run, e := restraint.Run(b.x, p, speed)
				wantError(t, "Run"+what, run, e, b.e)
				answers, e := restraint.Answers(b.x, p, speed)
				wantError(t, "Answers"+what, answers, e, b.e)
			}
		}
	}
}

func TestCheckSet(t *testing.T) {
	for _, p := range []restraint.Set{set(1, 10, 2), {}, set(restraint.MaxWay, restraint.MaxForce, restraint.MaxSteps)} {
		want(t, fmt.Sprintf("CheckSet of %v", p), restraint.CheckSet(p), api.OK)
	}
	for _, p := range badSets() {
		what := fmt.Sprintf(" of %v", p)
		want(t, "CheckSet"+what, restraint.CheckSet(p), api.ErrRange)
		run, e := restraint.Run(car(), p, 10)
		wantError(t, "Run"+what, run, e, api.ErrRange)
		answers, e := restraint.Answers(car(), p, 10)
		wantError(t, "Answers"+what, answers, e, api.ErrRange)
	}
	for _, n := range outside(1, restraint.MaxSpeed) {
		run, e := restraint.Run(car(), set(1, 10, 2), n)
		wantError(t, fmt.Sprintf("Run at %d", n), run, e, api.ErrRange)
		answers, e := restraint.Answers(car(), set(1, 10, 2), n)
		wantError(t, fmt.Sprintf("Answers at %d", n), answers, e, api.ErrRange)
	}
}

// soft is a car that nothing stops before the way 30, then a force of 7, which is 3 by its mass.
func soft() restraint.Model {
	return restraint.Model{Car: 2, Occupant: 3, Front: spring(0, 0, 29, 0, 30, 7), Belt: spring(0, 3, 2, 5), Bag: spring(0, 0, 1, 8), Gap: 2, Steps: 6}
}

func TestRun(t *testing.T) {
	for _, x := range []struct {
		m      restraint.Model
		p      restraint.Set
		speed  int
		states []restraint.State
	}{
		{car(), set(1, 10, 2), 10, []restraint.State{{0, 10, 0, 10, 0, 0, 0}, {10, 0, 10, 10, 100, 0, 0}, {10, -10, 20, 5, 100, 10, 0}, {0, -10, 25, -20, 0, 10, 40}}},
		{steps(car(), 1), set(0, 0, 0), 3, []restraint.State{{0, 3, 0, 3, 0, 0, 0}, {3, 0, 3, 3, 30, 0, 0}}},
		// The belt without slack and a limit, and the bag from the first step on.
		{car(), set(0, 1000, 0), 10, []restraint.State{{0, 10, 0, 10, 0, 0, 0}, {10, 0, 10, 10, 100, 0, 0}, {10, -10, 20, -12, 100, 20, 24}, {0, -10, 8, -30, 0, 20, 16}}},
		// Each force counts from the way above its slack, or its gap, on; at it there is none.
		{soft(), set(0, 1000, 0), 10, []restraint.State{{0, 10, 0, 10, 0, 0, 0}, {10, 10, 10, 10, 0, 0, 0}, {20, 10, 20, 10, 0, 0, 0}, {30, 7, 30, 10, 7, 0, 0}, {37, 4, 40, 6, 7, 5, 8}, {41, 1, 46, 2, 7, 5, 8}, {42, -2, 48, -2, 7, 5, 8}}},
		{soft(), set(3, 1000, 6), 10, []restraint.State{{0, 10, 0, 10, 0, 0, 0}, {10, 10, 10, 10, 0, 0, 0}, {20, 10, 20, 10, 0, 0, 0}, {30, 7, 30, 10, 7, 0, 0}, {37, 4, 40, 10, 7, 0, 0}, {41, 1, 50, 9, 7, 5, 0}, {42, -2, 59, 8, 7, 5, 0}}},
		{soft(), set(8, 1000, 5), 10, []restraint.State{{0, 10, 0, 10, 0, 0, 0}, {10, 10, 10, 10, 0, 0, 0}, {20, 10, 20, 10, 0, 0, 0}, {30, 7, 30, 10, 7, 0, 0}, {37, 4, 40, 10, 7, 0, 0}, {41, 1, 50, 9, 7, 4, 0}, {42, -2, 59, 5, 7, 5, 8}}},
		{soft(), set(9, 2, 4), 10, []restraint.State{{0, 10, 0, 10, 0, 0, 0}, {10, 10, 10, 10, 0, 0, 0}, {20, 10, 20, 10, 0, 0, 0}, {30, 7, 30, 10, 7, 0, 0}, {37, 4, 40, 10, 7, 0, 0}, {41, 1, 50, 8, 7, 0, 8}, {42, -2, 58, 5, 7, 2, 8}}},
	} {
		states, e := restraint.Run(x.m, x.p, x.speed)
		wantOK(t, fmt.Sprintf("Run of %v with %v at %d", x.m, x.p, x.speed), states, e, x.states)
	}
}

func TestAnswers(t *testing.T) {
	// The first step throws the car back; nothing stops its occupant, or only for a step.
	back := restraint.Model{Car: 1, Occupant: 1, Front: spring(0, restraint.MaxForce, 1, restraint.MaxForce), Belt: spring(0, 0, 1, restraint.MaxForce), Bag: spring(0, 0, restraint.MaxWay, 0), Steps: restraint.MaxSteps}
	for _, x := range []struct {
		m       restraint.Model
		p       restraint.Set
		speed   int
		answers [3]int
	}{
		{car(), set(1, 10, 2), 10, [3]int{10, 25, 25}}, {car(), set(1, 10, 3), 10, [3]int{10, 25, 5}}, {car(), set(0, 10, 2), 10, [3]int{10, 25, 25}}, {car(), set(0, 1000, 0), 10, [3]int{20, 10, 22}},
		// Before the car is stopped there is nothing to answer.
		{steps(car(), 1), set(0, 1000, 0), 10, [3]int{0, 0, 0}}, {steps(soft(), 3), set(0, 1000, 0), 10, [3]int{0, 0, 0}}, {steps(soft(), 4), set(0, 1000, 0), 10, [3]int{5, 3, 4}}, {soft(), set(9, 2, 4), 10, [3]int{2, 16, 3}},
		// These are beyond what a case can have measured: the car goes back by 999000 a step, and its occupant on by 1000.
		{back, set(0, 0, 200), 1000, [3]int{0, 199 * 1000000, 0}}, {back, set(0, 5, 200), 1000, [3]int{5, 199*1000000 - 5*198*199/2, 5}},
	} {
		answers, e := restraint.Answers(x.m, x.p, x.speed)
		wantOK(t, fmt.Sprintf("Answers of %v with %v at %d", x.m, x.p, x.speed), answers, e, x.answers)
	}
}

func TestRunsByTheDefinition(t *testing.T) {
	r := dice(2)
	met := [3]int{}
	for range 3000 {
		m, p, speed := someModel(r), someSet(r), someSpeed(r)
		what := fmt.Sprintf(" of %v with %v at %d", m, p, speed)
		states, e := restraint.Run(m, p, speed)
		wantOK(t, "Run"+what, states, e, slowRun(m, p, speed))
		answers, e := restraint.Answers(m, p, speed)
		wantOK(t, "Answers"+what, answers, e, slowAnswers(m, p, speed))
		for i, x := range [3]bool{answers[0] > 0 && answers[0] < p.Limit, answers[0] > 0 && answers[0] == p.Limit, states[len(states)-1].Bag > 0} {
			if x {
				met[i]++
			}
		}
	}
	want(t, "whether many occupants meet the belt, its limit and the bag", min(met[0], met[1], met[2]) > 300, true)
}
