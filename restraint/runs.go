package restraint

import (
	"iter"
	"slices"

	"crumple/api"
	"crumple/check"
	"crumple/quotient"
)

// parameter is one of the parameters of a set: its greatest value, and where it is.
type parameter struct {
	most int
	of   func(*Set) *int
}

// parameters returns the parameters of a set, in their order.
func parameters() [3]parameter {
	return [...]parameter{
		{MaxWay, func(p *Set) *int { return &p.Slack }},
		{MaxForce, func(p *Set) *int { return &p.Limit }},
		{MaxSteps, func(p *Set) *int { return &p.Delay }},
	}
}

// checkValue returns ErrRange if a value of a parameter is not in its range, or OK.
func (x parameter) checkValue(value int) api.Errno {
	return check.Within(value, 0, x.most)
}

// CheckModel returns the first error of a model, or OK.
func CheckModel(m Model) api.Errno {
	return check.First(
		check.Within(m.Car, 1, MaxMass),
		check.Within(m.Occupant, 1, MaxMass),
		CheckSpring(m.Front),
		CheckSpring(m.Belt),
		CheckSpring(m.Bag),
		check.Within(m.Gap, 0, MaxWay),
		check.Within(m.Steps, 1, MaxSteps),
	)
}

// CheckSet returns the first error of a set, or OK.
func CheckSet(p Set) api.Errno {
	all := parameters()
	return check.Each(all[:], func(x parameter) api.Errno { return x.checkValue(*x.of(&p)) })
}

// checkSpeed returns ErrRange if a speed is not in its range, or OK.
func checkSpeed(speed int) api.Errno {
	return check.Within(speed, 1, MaxSpeed)
}

// lead returns how much further the occupant has come than the car.
func (s State) lead() int {
	return s.Way - s.CarWay
}

// after returns the state that follows from another one, by the index of its step.
func (m Model) after(s State, p Set, step int) State {
	s.CarWay += s.CarSpeed
	s.Way += s.Speed
	s.Front = m.Front.force(s.CarWay)
	s.Belt = min(m.Belt.force(s.lead()-p.Slack), p.Limit)
	s.Bag = 0
	if step > p.Delay {
		s.Bag = m.Bag.force(s.lead() - m.Gap)
	}
	s.CarSpeed -= quotient.Down(s.Front, m.Car)
	s.Speed -= quotient.Down(s.Belt+s.Bag, m.Occupant)
	return s
}

// states visits the states of a run, the first one, too.
func (m Model) states(p Set, speed int) iter.Seq[State] {
	return func(visit func(State) bool) {
		s := State{CarSpeed: speed, Speed: speed}
		if !visit(s) {
			return
		}
		for before := range m.Steps {
			s = m.after(s, p, before+1)
			if !visit(s) {
				return
			}
		}
	}
}

// answers returns the answers of a run.
func (m Model) answers(p Set, speed int) [3]int {
	var answers [3]int
	before := speed
	for s := range m.states(p, speed) {
		for i, x := range [...]int{s.Belt, s.lead(), before - s.Speed} {
			answers[i] = max(answers[i], x)
		}
		before = s.Speed
	}
	return answers
}

// checkRun returns the first error of a model, a set and a speed, or OK.
func checkRun(m Model, p Set, speed int) api.Errno {
	return check.First(CheckModel(m), CheckSet(p), checkSpeed(speed))
}

// Run returns the states of a run.
func Run(m Model, p Set, speed int) ([]State, api.Errno) {
	if e := checkRun(m, p, speed); e != api.OK {
		return nil, e
	}
	return slices.Collect(m.states(p, speed)), api.OK
}

// Answers returns the answers of a run.
func Answers(m Model, p Set, speed int) ([3]int, api.Errno) {
	if e := checkRun(m, p, speed); e != api.OK {
		return [3]int{}, e
	}
	return m.answers(p, speed), api.OK
}
