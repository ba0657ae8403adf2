package garage

import (
	"slices"

	"crumple/api"
	"crumple/check"
	"crumple/lists"
)

// Admitted returns the tick from which on people are admitted after acts.
func Admitted(h Hall, l []Act) (int, api.Errno) {
	s, e := h.after(l)
	return s.Admitted, e
}

// Shots returns the ticks of all shots.
func Shots(h Hall, l []Act) ([]int, api.Errno) {
	if _, e := h.after(l); e != api.OK {
		return nil, e
	}
	shots := lists.Kept(l, func(a Act) bool { return a.Kind == shootKind })
	return lists.Mapped(shots, func(a Act) int { return a.Tick }), api.OK
}

// spans returns the spans of ticks in which something holds; each state lasts from its tick to that of the next one.
func spans(states []State, holds func(State) bool) []api.Span {
	var l []api.Span
	for i := 1; i < len(states); i++ {
		s, to := states[i-1], states[i].Tick
		if !holds(s) || s.Tick == to {
			continue
		}
		if end := len(l) - 1; end >= 0 && l[end].To == s.Tick {
			l[end].To = to
			continue
		}
		l = append(l, api.Span{From: s.Tick, To: to})
	}
	return l
}

// Occupied returns the spans of ticks in which somebody is inside.
func Occupied(h Hall, l []Act) ([]api.Span, api.Errno) {
	states, e := States(h, l)
	return spans(states, func(s State) bool { return s.People > 0 }), e
}

// Armed returns the spans of ticks in which the hall is armed.
func Armed(h Hall, l []Act) ([]api.Span, api.Errno) {
	states, e := States(h, l)
	return spans(states, func(s State) bool { return s.Armed }), e
}

// checkTrace returns the first error of a trace, or OK.
func checkTrace(trace []int) api.Errno {
	return check.First(check.When(len(trace) > MaxTrace, api.ErrMany), check.Each(trace, func(position int) api.Errno {
		return check.Within(position, -MaxMeasure, MaxMeasure)
	}))
}

// checkSpans returns the first error of permitted spans, or OK.
func checkSpans(l []api.Span) api.Errno {
	end := 0
	return check.First(check.When(len(l) > MaxSpans, api.ErrMany), check.Each(l, func(s api.Span) api.Errno {
		e := check.First(
			check.When(s.From >= s.To || s.From < 0 || s.To > api.MaxTick, api.ErrSpan),
			check.When(s.From < end, api.ErrOverlap),
		)
		end = s.To
		return e
	}))
}

// Moved returns the indices at which a trace moves outside of some spans.
func Moved(trace []int, permitted []api.Span) ([]int, api.Errno) {
	if e := check.First(checkTrace(trace), checkSpans(permitted)); e != api.OK {
		return nil, e
	}
	var moved []int
	for i := 1; i < len(trace); i++ {
		covers := func(s api.Span) bool { return s.From <= i && i < s.To }
		if trace[i] != trace[i-1] && !slices.ContainsFunc(permitted, covers) {
			moved = append(moved, i)
		}
	}
	return moved, api.OK
}
