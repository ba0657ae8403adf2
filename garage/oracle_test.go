package garage_test

import (
	"slices"

	"crumple/api"
	"crumple/garage"
)

// A second reading of the chapter's definitions, word by word and slowly: a state follows from all acts at one time, spans from each tick, the best order from all of them.

// slowWait returns the wait after what was measured.
func slowWait(h garage.Hall, values [3]int) int {
	var waits []int
	for i, table := range h.Tables {
		last := table[0]
		for _, s := range table {
			if s.From <= values[i] {
				last = s
			}
		}
		waits = append(waits, last.Wait)
	}
	return slices.Max(waits)
}

// latest returns the last act of some kinds, with a number, and whether there is one.
func latest(l []garage.Act, number int, words ...string) (garage.Act, bool) {
	for _, a := range slices.Backward(l) {
		if a.Number == number && slices.Contains(words, a.Kind) {
			return a, true
		}
	}
	return garage.Act{}, false
}

// count returns how many acts are of a kind.
func count(l []garage.Act, kind string) int {
	n := 0
	for _, a := range l {
		if a.Kind == kind {
			n++
		}
	}
	return n
}

// slowState returns the state after permitted acts.
func slowState(h garage.Hall, l []garage.Act) garage.State {
	s := garage.State{Shot: garage.None, People: count(l, "enter") - count(l, "leave")}
	if len(l) > 0 {
		s.Tick = l[len(l)-1].Tick
	}
	for door := range garage.MaxDoors {
		a, _ := latest(l, door, "open", "close")
		s.Open[door] = a.Kind == "open"
	}
	for key := range 2 {
		a, _ := latest(l, key, "insert", "remove")
		s.Keys[key] = a.Kind == "insert"
	}
	a, _ := latest(l, 0, "arm", "disarm", "shoot")
	s.Armed = a.Kind == "arm"
	if shot, was := latest(l, 0, "shoot"); was {
		s.Shot, s.Admitted = shot.Tick, garage.None
		if a, _ := latest(l, 0, "shoot", "measure"); a.Kind == "measure" {
			s.Admitted = shot.Tick + h.Base
			if end := a.Tick + slowWait(h, a.Values); end > s.Admitted {
				s.Admitted = end
			}
		}
	}
	return s
}

// slowIsIn reports whether the reason `state` applies.
func slowIsIn(s garage.State, a garage.Act) bool {
	switch a.Kind {
	case "open":
		return s.Open[a.Number]
	case "close":
		return !s.Open[a.Number]
	case "insert":
		return s.Keys[a.Number]
	case "remove":
		return !s.Keys[a.Number]
	case "leave":
		return s.People == 0
	case "enter":
		return s.People == 100
	case "arm":
		return s.Armed
	case "disarm", "shoot":
		return !s.Armed
	}
	return s.Shot == garage.None
}

// slowReasons returns the reasons why an act is not permitted in a state.
func slowReasons(s garage.State, a garage.Act) []string {
	is := func(words ...string) bool { return slices.Contains(words, a.Kind) }
	admitted := s.Admitted != garage.None && s.Admitted <= a.Tick
	var reasons []string
	for _, x := range []struct {
		word    string
		applies bool
	}{
		{"tick", a.Tick < s.Tick},
		{"state", slowIsIn(s, a)},
		{"armed", is("open", "remove", "enter") && s.Armed},
		{"door", is("enter", "leave") && !s.Open[a.Number] || is("arm") && slices.Contains(s.Open[:], true)},
		{"people", is("arm") && s.People > 0},
		{"key", is("arm") && !(s.Keys[0] && s.Keys[1])},
		{"wait", is("open", "enter", "arm") && !admitted},
	} {
		if x.applies {
			reasons = append(reasons, x.word)
		}
	}
	return reasons
}

// slowPermitted returns the kinds that are permitted in a state at a tick, for a number.
func slowPermitted(h garage.Hall, s garage.State, tick, number int) []string {
	var permitted []string
	for i, kind := range kinds {
		a := act(kind, tick, number)
		switch {
		case i >= 6:
			a.Number = 0
		case i < 2 || i >= 4:
			if number >= h.Doors {
				continue
			}
		default:
			if number >= 2 {
				continue
			}
		}
		if len(slowReasons(s, a)) == 0 {
			permitted = append(permitted, kind)
		}
	}
	return permitted
}

// slowSpans returns the spans of the ticks for which something holds after all acts up to this tick.
func slowSpans(l []garage.Act, holds func([]garage.Act) bool) []api.Span {
	var spans []api.Span
	if len(l) == 0 {
		return nil
	}
	was := false
	for tick := range l[len(l)-1].Tick {
		n := 0
		for n < len(l) && l[n].Tick <= tick {
			n++
		}
		is := holds(l[:n])
		if is && !was {
			spans = append(spans, api.Span{From: tick})
		}
		if is {
			spans[len(spans)-1].To = tick + 1
		}
		was = is
	}
	return spans
}

// slowMoved returns the indices at which a trace moves, but for those of permitted spans.
func slowMoved(trace []int, permitted []api.Span) []int {
	free := map[int]bool{}
	for _, s := range permitted {
		for tick := s.From; tick < s.To; tick++ {
			free[tick] = true
		}
	}
	var moved []int
	for i := range trace {
		if i > 0 && trace[i] != trace[i-1] && !free[i] {
			moved = append(moved, i)
		}
	}
	return moved
}

// slowConflict reports whether starts are no schedule.
func slowConflict(l []garage.Job, starts []int) bool {
	for i, a := range l {
		for j, b := range l {
			if i == j {
				continue
			}
			if a.Crew == b.Crew || a.Hall == b.Hall {
				if !(starts[i]+a.Time <= starts[j] || starts[j]+b.Time <= starts[i]) {
					return true
				}
			}
			if a.Dummy == b.Dummy {
				if !(starts[i]+a.Time+a.Soak <= starts[j] || starts[j]+b.Time+b.Soak <= starts[i]) {
					return true
				}
			}
		}
	}
	return false
}

// slowStarts returns the starts of jobs that are placed in an order, and their end.
func slowStarts(l []garage.Job, order []int) ([]int, int) {
	starts := make([]int, len(l))
	end := 0
	for at, i := range order {
		for _, before := range order[:at] {
			a, b := l[before], l[i]
			if a.Crew == b.Crew && starts[before]+a.Time > starts[i] {
				starts[i] = starts[before] + a.Time
			}
			if a.Hall == b.Hall && starts[before]+a.Time > starts[i] {
				starts[i] = starts[before] + a.Time
			}
			if a.Dummy == b.Dummy && starts[before]+a.Time+a.Soak > starts[i] {
				starts[i] = starts[before] + a.Time + a.Soak
			}
		}
		if starts[i]+l[i].Time > end {
			end = starts[i] + l[i].Time
		}
	}
	return starts, end
}

// slowOrders returns all orders of some indices, not sorted.
func slowOrders(n int) [][]int {
	if n == 0 {
		return [][]int{nil}
	}
	var all [][]int
	for _, order := range slowOrders(n - 1) {
		for at := range n {
			all = append(all, slices.Insert(slices.Clone(order), at, n-1))
		}
	}
	return all
}

// slowPlan returns the best order of jobs and its end.
func slowPlan(l []garage.Job) plan {
	var best plan
	for i, order := range slowOrders(len(l)) {
		_, end := slowStarts(l, order)
		if i == 0 || end < best.second || end == best.second && slices.Compare(order, best.first) < 0 {
			best = plan{order, end}
		}
	}
	return best
}

// slowBound returns the bound of jobs.
func slowBound(l []garage.Job) int {
	bound := 0
	for n := range garage.MaxNumber + 1 {
		crew, hall, dummy, most := 0, 0, 0, 0
		for _, j := range l {
			if j.Crew == n {
				crew += j.Time
			}
			if j.Hall == n {
				hall += j.Time
			}
			if j.Dummy == n {
				dummy += j.Time + j.Soak
				most = max(most, j.Soak)
			}
		}
		bound = max(bound, crew, hall, dummy-most)
	}
	return bound
}
