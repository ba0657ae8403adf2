package garage

import (
	"iter"

	"crumple/api"
	"crumple/check"
)

// checkTick returns ErrRange if a tick is not in its range, or OK.
func checkTick(tick int) api.Errno {
	return check.Within(tick, 0, api.MaxTick)
}

// checkValues returns ErrRange if a value that is measured is not in its range, ErrForm if another act has values, or OK.
func (a Act) checkValues() api.Errno {
	if a.Kind == measureKind {
		return checkMeasured(a.Values)
	}
	return check.When(a != Act{Tick: a.Tick, Kind: a.Kind, Number: a.Number}, api.ErrForm)
}

// checkAct returns the first error of an act in a hall that has none, or OK.
func (h Hall) checkAct(all map[string]kind, a Act) api.Errno {
	k, isKind := all[a.Kind]
	if e := check.First(checkTick(a.Tick), check.When(!isKind, api.ErrKind)); e != api.OK {
		return e
	}
	return check.First(
		check.When(a.Number < 0 || a.Number >= k.numbers(h), api.ErrUnknown),
		a.checkValues(),
	)
}

// CheckAct returns the first error of an act, or OK.
func CheckAct(h Hall, a Act) api.Errno {
	return check.First(CheckHall(h), h.checkAct(kinds(), a))
}

// checkActs returns the first error of a hall and its acts, or OK.
func checkActs(h Hall, l []Act) api.Errno {
	all := kinds()
	return check.First(
		CheckHall(h),
		check.When(len(l) > api.MaxEvents, api.ErrMany),
		check.Each(l, func(a Act) api.Errno { return h.checkAct(all, a) }),
	)
}

// states visits the states after each of some acts, up to the first one that is not permitted.
func (h Hall) states(l []Act) iter.Seq[State] {
	return func(visit func(State) bool) {
		all, s := kinds(), first()
		for _, a := range l {
			k := all[a.Kind]
			if len(k.reasons(s, a)) > 0 {
				return
			}
			s = k.after(s, h, a)
			if !visit(s) {
				return
			}
		}
	}
}

// run returns the states after each of some acts, up to the first one that is not permitted, and ErrRule if there is one.
func (h Hall) run(l []Act) ([]State, api.Errno) {
	var states []State
	for s := range h.states(l) {
		states = append(states, s)
	}
	return states, check.When(len(states) < len(l), api.ErrRule)
}

// last returns the last one of some states, or the first state of all.
func last(states []State) State {
	if len(states) == 0 {
		return first()
	}
	return states[len(states)-1]
}

// after returns the state after acts; it returns their error, then the first one of some others, then ErrRule.
func (h Hall) after(l []Act, others ...api.Errno) (State, api.Errno) {
	if e := check.First(checkActs(h, l), check.First(others...)); e != api.OK {
		return State{}, e
	}
	states, e := h.run(l)
	if e != api.OK {
		return State{}, e
	}
	return last(states), api.OK
}

// Run returns the state after acts, and the index of the first act that is not permitted.
func Run(h Hall, l []Act) (State, int, api.Errno) {
	if e := checkActs(h, l); e != api.OK {
		return State{}, 0, e
	}
	states, e := h.run(l)
	if e != api.OK {
		return State{}, len(states), e
	}
	return last(states), 0, api.OK
}

// States returns the states after each of some acts.
func States(h Hall, l []Act) ([]State, api.Errno) {
	if e := checkActs(h, l); e != api.OK {
		return nil, e
	}
	states, e := h.run(l)
	if e != api.OK {
		return nil, e
	}
	return states, api.OK
}

// Reasons returns why an act is not permitted after acts.
func Reasons(h Hall, l []Act, a Act) ([]string, api.Errno) {
	s, e := h.after(l, CheckAct(h, a))
	if e != api.OK {
		return nil, e
	}
	return kinds()[a.Kind].reasons(s, a), api.OK
}

// Permitted returns the kinds that are permitted at a tick after acts, for a number.
func Permitted(h Hall, l []Act, tick, number int) ([]string, api.Errno) {
	s, e := h.after(l, checkTick(tick), check.Within(number, 0, MaxDoors-1))
	if e != api.OK {
		return nil, e
	}
	all := kinds()
	var permitted []string
	for _, word := range kindWords {
		k, a := all[word], Act{Tick: tick, Kind: word}
		if k.numbered {
			a.Number = number
		}
		if h.checkAct(all, a) == api.OK && len(k.reasons(s, a)) == 0 {
			permitted = append(permitted, word)
		}
	}
	return permitted, api.OK
}
