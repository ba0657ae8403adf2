package garage_test

import (
	"fmt"
	"slices"
	"testing"

	"crumple/api"
	"crumple/garage"
)

// P9.1 (halls and acts): acts, states and reasons, with ordinary inputs, at their limits, and with their errors in their order.

func TestCheckAct(t *testing.T) {
	for _, a := range slices.Concat(acts(), []garage.Act{
		act("open", 0, 1), act("close", api.MaxTick, 1), act("enter", 9, 1), act("leave", 9, 1), act("insert", 9, 1), act("remove", 9, 1), act("disarm", 0), act("measure", 0), act("measure", api.MaxTick, garage.MaxMeasure, garage.MaxMeasure, garage.MaxMeasure),
	}) {
		want(t, fmt.Sprintf("CheckAct of %v", a), garage.CheckAct(hall(), a), api.OK)
	}
	// How many doors there are is the hall's, how many keys is not.
	for n := 1; n <= garage.MaxDoors; n++ {
		h := hall()
		h.Doors = n
		for i, kind := range kinds {
			numbers := 1
			if i < 6 {
				numbers = n
			}
			if kind == "insert" || kind == "remove" {
				numbers = 2
			}
			for number := range garage.MaxDoors + 1 {
				wanted := api.OK
				if number >= numbers {
					wanted = api.ErrUnknown
				}
				want(t, fmt.Sprintf("CheckAct of %s %d with %d doors", kind, number, n), garage.CheckAct(h, act(kind, 3, number)), wanted)
			}
		}
	}
	for _, b := range badActs() {
		want(t, fmt.Sprintf("CheckAct of %v", b.x), garage.CheckAct(hall(), b.x), b.e)
	}
	for _, b := range badHalls() {
		for _, a := range []garage.Act{act("open", 3, 0), act("shut", -1)} {
			want(t, fmt.Sprintf("CheckAct of %v in %s", a, short(b.x)), garage.CheckAct(b.x, a), b.e)
		}
	}
}

func TestStates(t *testing.T) {
	const none = garage.None
	both := [2]bool{true, true}
	states := []garage.State{
		{Tick: 1, Open: doors(0), Shot: none},
		{Tick: 2, Open: doors(0), People: 1, Shot: none},
		{Tick: 3, Open: doors(0), Keys: [2]bool{true, false}, People: 1, Shot: none},
		{Tick: 3, Open: doors(0), Keys: both, People: 1, Shot: none},
		{Tick: 4, Open: doors(0), Keys: both, Shot: none},
		{Tick: 5, Keys: both, Shot: none},
		{Tick: 6, Keys: both, Armed: true, Shot: none},
		{Tick: 8, Keys: both, Shot: 8, Admitted: none},
		{Tick: 12, Keys: both, Shot: 8, Admitted: 42},
		{Tick: 20, Keys: both, Shot: 8, Admitted: 25},
		{Tick: 25, Open: doors(1), Keys: both, Shot: 8, Admitted: 25},
		{Tick: 26, Keys: both, Shot: 8, Admitted: 25},
		{Tick: 27, Keys: both, Armed: true, Shot: 8, Admitted: 25},
		{Tick: 28, Keys: both, Shot: 8, Admitted: 25},
		{Tick: 28, Keys: [2]bool{true, false}, Shot: 8, Admitted: 25},
	}
	l := then(acts(), act("measure", 12, 50, 0, 0), act("measure", 20, 0, 0, 0), act("open", 25, 1), act("close", 26, 1), act("arm", 27), act("disarm", 28), act("remove", 28, 1))
	got, e := garage.States(hall(), l)
	wantOK(t, "States", got, e, states)
	got, e = garage.States(hall(), nil)
	wantOK(t, "States of no acts", got, e, nil)
	for n := range len(l) + 1 {
		wanted := garage.State{Shot: none}
		if n > 0 {
			wanted = states[n-1]
		}
		state, i, e := garage.Run(hall(), l[:n])
		wantOK(t, fmt.Sprintf("Run of %v", l[:n]), stopped{state, i}, e, stopped{wanted, 0})
	}
}

func TestMeasured(t *testing.T) {
	for _, x := range []struct {
		base, tick int
		values     []int
		admitted   int
	}{
		// The shot is at 8.
		{10, 12, []int{50, 0, 0}, 42}, {10, 12, []int{0, 0, 0}, 18}, {10, 13, []int{0, 0, 0}, 18}, {10, 14, []int{0, 0, 0}, 19}, {34, 12, []int{50, 0, 0}, 42}, {35, 12, []int{50, 0, 0}, 43}, {0, 8, []int{0, 0, 0}, 13}, {0, 8, []int{0, 80, 0}, 28}, {garage.MaxWait, 9, []int{50, 80, 0}, garage.MaxWait + 8},
		// It is no tick that an act can have.
		{10, api.MaxTick, []int{50, 80, 0}, api.MaxTick + 30},
	} {
		h := hall()
		h.Base = x.base
		l := then(acts(), act("measure", x.tick, x.values...))
		wanted := garage.State{Tick: x.tick, Keys: [2]bool{true, true}, Shot: 8, Admitted: x.admitted}
		state, i, e := garage.Run(h, l)
		wantOK(t, fmt.Sprintf("Run of %v", l), stopped{state, i}, e, stopped{wanted, 0})
		// People are admitted from this tick on.
		for less, admits := range []bool{true, false} {
			a := act("open", x.admitted-less, 0)
			if a.Tick > api.MaxTick || a.Tick < x.tick {
				continue
			}
			var wanted []string
			if !admits {
				wanted = []string{"wait"}
			}
			reasons, e := garage.Reasons(h, l, a)
			wantOK(t, fmt.Sprintf("Reasons of %v after %v", a, l), reasons, e, wanted)
		}
	}
}

func TestReasons(t *testing.T) {
	a := acts()
	late := then(a, act("measure", 12, 50, 0, 0))
	full := append(entered()[:1:1], slices.Repeat([]garage.Act{act("enter", 2, 0)}, garage.MaxPeople)...)
	for _, x := range []struct {
		l       []garage.Act
		a       garage.Act
		reasons []string
	}{
		// The examples of the chapter.
		{slices.Delete(acts(), 4, 5)[:5], act("arm", 6), []string{"people"}}, {a, act("open", 30, 0), []string{"wait"}}, {a, act("arm", 7), []string{"tick", "wait"}}, {then(a, act("remove", 8, 0)), act("arm", 9), []string{"key", "wait"}},
		// Before all acts.
		{nil, act("open", 0, 0), nil}, {nil, act("close", 0, 0), []string{"state"}}, {nil, act("insert", 0, 0), nil}, {nil, act("remove", 0, 0), []string{"state"}}, {nil, act("enter", 0, 0), []string{"door"}}, {nil, act("leave", 0, 0), []string{"state", "door"}}, {nil, act("arm", 0), []string{"key"}}, {nil, act("disarm", 0), []string{"state"}}, {nil, act("shoot", 0), []string{"state"}}, {nil, act("measure", 0), []string{"state"}},
		// A door is open, and somebody is inside.
		{entered(), act("open", 2, 0), []string{"state"}}, {entered(), act("open", 2, 1), nil}, {entered(), act("close", 2, 1), []string{"state"}}, {entered(), act("close", 2, 0), nil}, {entered(), act("close", 1, 0), []string{"tick"}}, {entered(), act("enter", 2, 0), nil}, {entered(), act("enter", 2, 1), []string{"door"}}, {entered(), act("leave", 2, 0), nil}, {entered(), act("leave", 2, 1), []string{"door"}}, {entered(), act("leave", 1, 1), []string{"tick", "door"}}, {entered(), act("arm", 1), []string{"tick", "door", "people", "key"}}, {then(entered(), act("insert", 2, 1)), act("arm", 2), []string{"door", "people", "key"}}, {then(entered(), act("insert", 2, 1), act("insert", 2, 0)), act("arm", 2), []string{"door", "people"}}, {entered()[:1], act("leave", 2, 0), []string{"state"}},
		// The hall is as full as it may be.
		{full[:len(full)-1], act("enter", 2, 0), nil}, {full, act("enter", 2, 0), []string{"state"}}, {full, act("enter", 1, 1), []string{"tick", "state", "door"}}, {full, act("leave", 2, 0), nil}, {then(full, act("leave", 2, 0)), act("enter", 2, 0), nil},
		// It is armed.
		{a[:7], act("open", 6, 0), []string{"armed"}}, {a[:7], act("close", 6, 0), []string{"state"}}, {a[:7], act("insert", 6, 0), []string{"state"}}, {a[:7], act("remove", 6, 0), []string{"armed"}}, {a[:7], act("enter", 6, 0), []string{"armed", "door"}}, {a[:7], act("leave", 6, 0), []string{"state", "door"}}, {a[:7], act("arm", 6), []string{"state"}}, {a[:7], act("arm", 5), []string{"tick", "state"}}, {a[:7], act("disarm", 6), nil}, {a[:7], act("shoot", 6), nil}, {a[:7], act("shoot", 5), []string{"tick"}}, {a[:7], act("measure", 6), []string{"state"}},
		// There was a shot, and nothing is measured.
		{a, act("open", api.MaxTick, 0), []string{"wait"}}, {a, act("close", 8, 0), []string{"state"}}, {a, act("insert", 8, 0), []string{"state"}}, {a, act("remove", 8, 0), nil}, {a, act("enter", 8, 0), []string{"door", "wait"}}, {a, act("leave", 8, 0), []string{"state", "door"}}, {a, act("arm", 8), []string{"wait"}}, {a, act("disarm", 8), []string{"state"}}, {a, act("shoot", 8), []string{"state"}}, {a, act("measure", 8), nil}, {a, act("measure", 7), []string{"tick"}},
		// It is measured, and people are admitted from 42 on.
		{late, act("open", 41, 0), []string{"wait"}}, {late, act("open", 42, 0), nil}, {late, act("enter", 41, 0), []string{"door", "wait"}}, {late, act("enter", 42, 0), []string{"door"}}, {late, act("arm", 41), []string{"wait"}}, {late, act("arm", 42), nil}, {late, act("measure", 12), nil}, {late, act("arm", 11), []string{"tick", "wait"}}, {then(late, act("arm", 42)), act("open", 41, 0), []string{"tick", "armed", "wait"}}, {then(late, act("arm", 42)), act("enter", 41, 1), []string{"tick", "armed", "door", "wait"}}, {then(late, act("open", 42, 1), act("enter", 50, 1), act("remove", 60, 0)), act("arm", 41), []string{"tick", "door", "people", "key", "wait"}}, {then(late, act("arm", 42), act("measure", 43, 0, 0, 0)), act("disarm", 43), nil},
	} {
		reasons, e := garage.Reasons(hall(), x.l, x.a)
		wantOK(t, fmt.Sprintf("Reasons of %v after %v", x.a, x.l), reasons, e, x.reasons)
	}
}

func TestPermitted(t *testing.T) {
	three := hall()
	three.Doors = 3
	for _, x := range []struct {
		h            garage.Hall
		l            []garage.Act
		tick, number int
		kinds        []string
	}{
		{hall(), acts(), 9, 0, []string{"remove", "measure"}}, {hall(), acts(), 8, 1, []string{"remove", "measure"}}, {hall(), acts(), 7, 0, nil}, {hall(), acts(), api.MaxTick, 2, []string{"measure"}}, {hall(), acts(), 9, 7, []string{"measure"}},
		{hall(), nil, 0, 0, []string{"open", "insert"}}, {hall(), nil, 0, 1, []string{"open", "insert"}}, {hall(), nil, 0, 2, nil}, {three, nil, 0, 2, []string{"open"}}, {three, nil, 0, 3, nil}, {greatest(), nil, 0, 7, []string{"open"}}, {noWaits(), nil, 0, 1, []string{"insert"}},
		{hall(), entered(), 2, 0, []string{"close", "insert", "enter", "leave"}}, {hall(), entered(), 2, 1, []string{"open", "insert"}}, {hall(), entered(), 1, 0, nil}, {hall(), acts()[:4], 3, 0, []string{"close", "remove", "enter", "leave"}}, {hall(), acts()[:6], 9, 0, []string{"open", "remove", "arm"}}, {hall(), acts()[:6], 9, 5, []string{"arm"}}, {hall(), acts()[:7], 9, 0, []string{"disarm", "shoot"}}, {hall(), acts()[:7], 9, 7, []string{"disarm", "shoot"}},
		{hall(), then(acts(), act("measure", 12, 50, 0, 0)), 41, 0, []string{"remove", "measure"}}, {hall(), then(acts(), act("measure", 12, 50, 0, 0)), 42, 0, []string{"open", "remove", "arm", "measure"}},
		{three, then(acts(), act("measure", 12, 50, 0, 0), act("open", 42, 2)), 42, 2, []string{"close", "enter", "measure"}}, {three, then(acts(), act("measure", 12, 50, 0, 0), act("arm", 42)), 42, 2, []string{"disarm", "shoot", "measure"}},
	} {
		l, e := garage.Permitted(x.h, x.l, x.tick, x.number)
		wantOK(t, fmt.Sprintf("Permitted of %d at %d after %v", x.number, x.tick, x.l), l, e, x.kinds)
	}
}

// wantActErrors checks the error that all functions of acts return, whatever the later arguments are.
func wantActErrors(t *testing.T, what string, h garage.Hall, l []garage.Act, index int, wanted api.Errno) {
	t.Helper()
	state, i, e := garage.Run(h, l)
	wantError(t, "Run of "+what, state, e, wanted)
	want(t, "the index of Run of "+what, i, index)
	states, e := garage.States(h, l)
	wantError(t, "States of "+what, states, e, wanted)
	admitted, e := garage.Admitted(h, l)
	wantError(t, "Admitted of "+what, admitted, e, wanted)
	shots, e := garage.Shots(h, l)
	wantError(t, "Shots of "+what, shots, e, wanted)
	occupied, e := garage.Occupied(h, l)
	wantError(t, "Occupied of "+what, occupied, e, wanted)
	armed, e := garage.Armed(h, l)
	wantError(t, "Armed of "+what, armed, e, wanted)
	text, e := garage.Print(h, l)
	wantError(t, "Print of "+what, text, e, wanted)
	reasons, e := garage.Reasons(h, l, act("open", 3, 0))
	wantError(t, "Reasons of "+what, reasons, e, wanted)
	permitted, e := garage.Permitted(h, l, 3, 0)
	wantError(t, "Permitted of "+what, permitted, e, wanted)
}

// wantLaterErrors checks the errors of functions of acts that have later arguments; without one that is wanted it is that of these arguments.
func wantLaterErrors(t *testing.T, what string, h garage.Hall, l []garage.Act, wanted api.Errno) {
	t.Helper()
	either := func(e api.Errno) api.Errno {
		if wanted != api.OK {
			return wanted
		}
		return e
	}
	for _, b := range []wrong[garage.Act]{{act("open", -1, 9), api.ErrRange}, {act("shut", 3), api.ErrKind}, {act("arm", 3, 1), api.ErrUnknown}, {act("arm", 3, 0, 0, 1), api.ErrForm}} {
		reasons, e := garage.Reasons(h, l, b.x)
		wantError(t, fmt.Sprintf("Reasons of %v after %s", b.x, what), reasons, e, either(b.e))
	}
	for _, x := range [][2]int{{-1, 0}, {api.MaxTick + 1, 9}, {0, garage.MaxDoors}, {far[0], far[0]}, {3, -1}} {
		permitted, e := garage.Permitted(h, l, x[0], x[1])
		wantError(t, fmt.Sprintf("Permitted of %v after %s", x, what), permitted, e, either(api.ErrRange))
	}
}

func TestErrorsOfActs(t *testing.T) {
	for _, b := range badHalls() {
		what := "acts in " + short(b.x)
		for _, l := range [][]garage.Act{acts(), nil, turning(api.MaxEvents+1, 0), {act("shut", -1)}, {act("close", 3, 0)}} {
			wantActErrors(t, what, b.x, l, 0, b.e)
			wantLaterErrors(t, what, b.x, l, b.e)
		}
	}
	for _, b := range badLists() {
		what := short(b.x)
		wantActErrors(t, what, hall(), b.x, 0, b.e)
		wantLaterErrors(t, what, hall(), b.x, b.e)
	}
	for _, x := range forbidden() {
		what := short(x.first)
		wantActErrors(t, what, hall(), x.first, x.second, api.ErrRule)
		// The errors of later arguments come before that of an act that is not permitted.
		wantLaterErrors(t, what, hall(), x.first, api.OK)
	}
	wantLaterErrors(t, "acts", hall(), acts(), api.OK)
	for _, b := range badActs() {
		for _, l := range [][]garage.Act{nil, acts(), {act("close", 3, 0)}} {
			reasons, e := garage.Reasons(hall(), l, b.x)
			wantError(t, fmt.Sprintf("Reasons of %v after %v", b.x, l), reasons, e, b.e)
		}
	}
	for _, n := range outside(0, api.MaxTick) {
		permitted, e := garage.Permitted(hall(), acts(), n, 0)
		wantError(t, fmt.Sprintf("Permitted at %d", n), permitted, e, api.ErrRange)
	}
	for _, n := range outside(0, garage.MaxDoors-1) {
		permitted, e := garage.Permitted(hall(), acts(), 9, n)
		wantError(t, fmt.Sprintf("Permitted of %d", n), permitted, e, api.ErrRange)
	}
}

func TestAsManyActsAsArePermitted(t *testing.T) {
	l := turning(api.MaxEvents, 7)
	state, i, e := garage.Run(hall(), l)
	wantOK(t, "Run of 1000 acts", stopped{state, i}, e, stopped{garage.State{Tick: 7, Shot: garage.None}, 0})
	states, e := garage.States(hall(), l)
	want(t, "States of 1000 acts", e, api.OK)
	want(t, "how many", len(states), api.MaxEvents)
	reasons, e := garage.Reasons(hall(), l, act("remove", 7, 1))
	wantOK(t, "Reasons after 1000 acts", reasons, e, []string{"state"})
	permitted, e := garage.Permitted(hall(), l, 7, 1)
	wantOK(t, "Permitted after 1000 acts", permitted, e, []string{"open", "insert"})
}

func TestActsByTheDefinition(t *testing.T) {
	r := dice(2)
	reached := map[string]int{}
	for range 1500 {
		h := someHall(r)
		l := someActs(r, h, between(r, 0, 60))
		what := fmt.Sprintf(" of %v in %v", l, h)
		var wanted []garage.State
		for n := range l {
			reached[l[n].Kind]++
			wanted = append(wanted, slowState(h, l[:n+1]))
		}
		states, e := garage.States(h, l)
		wantOK(t, "States"+what, states, e, wanted)
		end := slowState(h, l)
		state, i, e := garage.Run(h, l)
		wantOK(t, "Run"+what, stopped{state, i}, e, stopped{end, 0})
		for range 5 {
			a := someAct(r, h, max(0, end.Tick-1))
			wanted := slowReasons(end, a)
			reasons, e := garage.Reasons(h, l, a)
			wantOK(t, fmt.Sprintf("Reasons of %v", a)+what, reasons, e, wanted)
			for _, word := range wanted {
				reached[word]++
			}
			if len(wanted) > 0 {
				state, i, e := garage.Run(h, then(l, a, act("close", 0, 0)))
				wantError(t, "Run with an act that is not permitted"+what, state, e, api.ErrRule)
				want(t, "its index"+what, i, len(l))
			}
			tick, number := max(0, end.Tick+one(r, []int{-1, 0, 0, 9, 99})), r.IntN(garage.MaxDoors)
			permitted, e := garage.Permitted(h, l, tick, number)
			wantOK(t, fmt.Sprintf("Permitted of %d at %d", number, tick)+what, permitted, e, slowPermitted(h, end, tick, number))
		}
	}
	for _, word := range append([]string{"tick", "state", "armed", "door", "people", "key", "wait"}, kinds...) {
		want(t, fmt.Sprintf("whether %s is often reached (%d times)", word, reached[word]), reached[word] > 100, true)
	}
}
