package garage_test

import (
	"fmt"
	"math"
	"math/rand/v2"
	"slices"
	"strings"
	"testing"

	"crumple/api"
	"crumple/garage"
)

// longest is a name that could not be longer.
var longest = strings.Repeat("x", api.MaxName)

// badNames are none.
var badNames = []string{"", "9a", "_a", "a b", "a-b", "-", "h\u00e9ad", "a\n", "\xff", longest + "x"}

// badKinds are none.
var badKinds = []string{"", "Open", "open ", " open", "opens", "ope", "shut", "ARM", "arm\n", "tick", "\xff"}

// kinds is all kinds, in the order of the chapter; the first six have a number.
var kinds = []string{"open", "close", "insert", "remove", "enter", "leave", "arm", "disarm", "shoot", "measure"}

// far are numbers that are out of all ranges.
var far = []int{math.MinInt, math.MinInt + 1, -2000000000, 2000000000, math.MaxInt}

// printed returns a result as text: nil and empty lists are alike.
func printed(x any) string { return fmt.Sprintf("%+v", x) }

// short returns the begin of what is printed.
func short(x any) string {
	s := printed(x)
	return s[:min(len(s), 199)]
}

// want compares two results as they are printed.
func want[T any](t *testing.T, what string, got, wanted T) {
	t.Helper()
	if a, b := printed(got), printed(wanted); a != b {
		t.Errorf("%.999s: got %.999s, want %.999s", what, a, b)
	}
}

// wantError checks an error, and that a result beside one is its zero value.
func wantError[T any](t *testing.T, what string, got T, e, wanted api.Errno) {
	t.Helper()
	want(t, what+", the error", e, wanted)
	if wanted != api.OK {
		want(t, what+", beside the error", got, *new(T))
	}
}

// wantOK checks a result without an error.
func wantOK[T any](t *testing.T, what string, got T, e api.Errno, wanted T) {
	t.Helper()
	want(t, what+", the error", e, api.OK)
	want(t, what, got, wanted)
}

// dice are the same on each run.
func dice(seed uint64) *rand.Rand { return rand.New(rand.NewPCG(seed, 9)) }

// between returns a number from low to high.
func between(r *rand.Rand, low, high int) int { return low + r.IntN(high-low+1) }

// one returns an element of a list.
func one[A any](r *rand.Rand, l []A) A { return l[r.IntN(len(l))] }

// pair is two results of one call.
type pair[A, B any] struct {
	first  A
	second B
}

// stopped is a state with an index, as Run returns both.
type stopped = pair[garage.State, int]

// plan is an order with its end, as Plan returns both.
type plan = pair[[]int, int]

// wrong is an argument with its first error; most have later errors, too.
type wrong[T any] struct {
	x T
	e api.Errno
}

// outside has numbers that are not from low to high.
func outside(low, high int) []int { return append([]int{low - 1, high + 1}, far...) }

// table returns a table of waits by the numbers and the waits of its steps.
func table(numbers ...int) []garage.Step {
	var l []garage.Step
	for p := range slices.Chunk(numbers, 2) {
		l = append(l, garage.Step{From: p[0], Wait: p[1]})
	}
	return l
}

// tables returns three tables.
func tables(gas, temperature, voltage []garage.Step) [3][]garage.Step {
	return [3][]garage.Step{gas, temperature, voltage}
}

// hall returns the hall H of the chapter's examples.
func hall() garage.Hall {
	return garage.Hall{Doors: 2, Base: 10, Tables: tables(table(0, 0, 50, 30), table(0, 0, 80, 20), table(0, 5))}
}

// greatest returns a hall with the greatest numbers, and as many doors and steps as are permitted.
func greatest() garage.Hall {
	l := longTable(garage.MaxSteps)
	l[garage.MaxSteps-1] = garage.Step{From: garage.MaxMeasure, Wait: garage.MaxWait}
	return garage.Hall{Doors: garage.MaxDoors, Base: garage.MaxWait, Tables: tables(l, l, l)}
}

// longTable returns a table with some steps.
func longTable(n int) []garage.Step {
	var l []garage.Step
	for i := range n {
		l = append(l, garage.Step{From: 3 * i, Wait: 2 * i})
	}
	return l
}

// act returns an act by its kind and its tick, and the number or the values, if it has them.
func act(kind string, tick int, numbers ...int) garage.Act {
	a := garage.Act{Tick: tick, Kind: kind}
	switch len(numbers) {
	case 1:
		a.Number = numbers[0]
	case 3:
		a.Values = [3]int(numbers)
	}
	return a
}

// entered returns the first two acts of A.
func entered() []garage.Act { return []garage.Act{act("open", 1, 0), act("enter", 2, 0)} }

// acts returns the acts A of the chapter's examples.
func acts() []garage.Act {
	return append(entered(), act("insert", 3, 0), act("insert", 3, 1), act("leave", 4, 0), act("close", 5, 0), act("arm", 6), act("shoot", 8))
}

// then returns acts, and others after them.
func then(l []garage.Act, others ...garage.Act) []garage.Act { return slices.Concat(l, others) }

// doors returns the doors of which some are open.
func doors(numbers ...int) [garage.MaxDoors]bool {
	var open [garage.MaxDoors]bool
	for _, n := range numbers {
		open[n] = true
	}
	return open
}

// turning returns as many acts as wanted, in which a key is inserted and removed, at some tick.
func turning(n, tick int) []garage.Act {
	var l []garage.Act
	for i := range n {
		l = append(l, act([]string{"insert", "remove"}[i%2], tick, 1))
	}
	return l
}

// shooting returns acts with as many shots as wanted, each at once after what was measured for the one before; the hall needs no waits.
func shooting(n int) []garage.Act {
	l := []garage.Act{act("insert", 0, 0), act("insert", 0, 1)}
	for i := range n {
		l = append(l, act("arm", i/2), act("shoot", i/2), act("measure", i/2))
	}
	return l
}

// noWaits returns a hall without waits.
func noWaits() garage.Hall {
	return garage.Hall{Doors: 1, Tables: tables(table(0, 0), table(0, 0), table(0, 0))}
}

// badTables has tables in the order of their errors.
func badTables() []wrong[[]garage.Step] {
	l := []wrong[[]garage.Step]{
		{nil, api.ErrEmpty}, {[]garage.Step{}, api.ErrEmpty}, {longTable(garage.MaxSteps + 1), api.ErrMany}, {make([]garage.Step, garage.MaxSteps+1), api.ErrMany}, {slices.Repeat(table(far[0], far[0]), garage.MaxSteps+1), api.ErrMany}, {make([]garage.Step, 5000), api.ErrMany},
		{table(1, 0), api.ErrOrder}, {table(1, 0, far[0], 0), api.ErrOrder}, {table(garage.MaxMeasure, 0), api.ErrOrder}, {table(1, -1), api.ErrRange}, {table(1, 0, 2, 0), api.ErrOrder},
		{table(0, 5, 0, 6), api.ErrOrder}, {table(0, 5, 0, garage.MaxWait+1), api.ErrRange}, {table(0, 5, 2, 5, 2, 6), api.ErrOrder}, {table(0, 5, 2, 5, 1, 6, far[0], 0), api.ErrOrder}, {table(0, 0, garage.MaxMeasure, 0, garage.MaxMeasure, 0), api.ErrOrder}, {table(0, 0, 3, 0, 0, 0), api.ErrOrder},
		{table(0, 5, 1, 4), api.ErrOrder}, {table(0, 5, 1, 6, 2, 5), api.ErrOrder}, {table(0, 5, 1, 5, 2, 0), api.ErrOrder}, {table(0, garage.MaxWait, 1, garage.MaxWait-1, far[0], 0), api.ErrOrder}, {append(longTable(garage.MaxSteps-1), garage.Step{From: garage.MaxMeasure}), api.ErrOrder},
	}
	for _, n := range outside(0, garage.MaxMeasure) {
		for _, bad := range [][]garage.Step{table(n, 0), table(n, far[0], 0, 0), table(0, 0, n, 0), table(0, 0, n, 0, 0, 0), append(longTable(garage.MaxSteps-1), garage.Step{From: n, Wait: 99})} {
			l = append(l, wrong[[]garage.Step]{bad, api.ErrRange})
		}
	}
	for _, n := range outside(0, garage.MaxWait) {
		for _, bad := range [][]garage.Step{table(0, n), table(1, n, 0, 0), table(0, 0, 1, n), table(0, 0, 0, n), table(0, 0, 3, 0, 2, n, 1, 0)} {
			l = append(l, wrong[[]garage.Step]{bad, api.ErrRange})
		}
	}
	return l
}

// badHalls has halls in the order of their errors: most have those of a later part, too.
func badHalls() []wrong[garage.Hall] {
	var l []wrong[garage.Hall]
	add := func(e api.Errno, change func(h *garage.Hall)) {
		h := hall()
		change(&h)
		l = append(l, wrong[garage.Hall]{h, e})
	}
	for _, n := range outside(1, garage.MaxDoors) {
		add(api.ErrRange, func(h *garage.Hall) { h.Doors = n })
		add(api.ErrRange, func(h *garage.Hall) { *h = garage.Hall{Doors: n, Base: -1} })
	}
	for _, n := range outside(0, garage.MaxWait) {
		add(api.ErrRange, func(h *garage.Hall) { h.Base = n })
		add(api.ErrRange, func(h *garage.Hall) { h.Base, h.Tables[0] = n, nil })
	}
	add(api.ErrEmpty, func(h *garage.Hall) { *h = garage.Hall{Doors: 1} })
	for _, b := range badTables() {
		for i := range 3 {
			add(b.e, func(h *garage.Hall) { h.Tables[i] = b.x })
		}
		other := table(1, 1)
		if b.e == api.ErrOrder {
			other = nil
		}
		add(b.e, func(h *garage.Hall) { h.Tables = tables(b.x, other, other) })
		add(b.e, func(h *garage.Hall) { h.Tables = tables(table(0, 0), b.x, other) })
	}
	return l
}

// badValues has three values of which one is not in its range.
func badValues() [][3]int {
	var l [][3]int
	for _, n := range outside(0, garage.MaxMeasure) {
		l = append(l, [3]int{n, 0, 0}, [3]int{0, n, 0}, [3]int{0, 0, n}, [3]int{n, n, n}, [3]int{garage.MaxMeasure, garage.MaxMeasure, n})
	}
	return l
}

// badActs has acts for the hall H in the order of their errors: most have those of a later part, too.
func badActs() []wrong[garage.Act] {
	var l []wrong[garage.Act]
	add := func(e api.Errno, bad ...garage.Act) {
		for _, a := range bad {
			l = append(l, wrong[garage.Act]{a, e})
		}
	}
	for _, n := range outside(0, api.MaxTick) {
		add(api.ErrRange, act("open", n, 0), act("open", n, 2), act("shoot", n), act("measure", n, 1, 2, 3), garage.Act{Tick: n, Kind: "shut", Number: -1, Values: [3]int{-1, 0, 0}}, garage.Act{Tick: n})
	}
	for _, kind := range badKinds {
		add(api.ErrKind, act(kind, 3), garage.Act{Tick: 3, Kind: kind, Number: -1, Values: [3]int{-1, 0, 0}}, garage.Act{Tick: 3, Kind: kind, Number: 1})
	}
	for i, kind := range kinds {
		most := 0
		if i < 6 {
			most = 1
		}
		for _, n := range outside(0, most) {
			add(api.ErrUnknown, act(kind, 3, n), garage.Act{Tick: 3, Kind: kind, Number: n, Values: [3]int{1, 0, 0}}, garage.Act{Tick: 3, Kind: kind, Number: n, Values: [3]int{-1, 0, 0}})
		}
		if kind != "measure" {
			add(api.ErrForm, act(kind, 3, 1, 0, 0), act(kind, 3, 0, 1, 0), act(kind, 3, 0, 0, -1), act(kind, 3, far[0], far[4], 7))
		}
	}
	for _, values := range badValues() {
		add(api.ErrRange, garage.Act{Tick: 3, Kind: "measure", Values: values})
	}
	return l
}

// badLists has lists of acts for the hall H in the order of their errors: most have an act that is not permitted, too.
func badLists() []wrong[[]garage.Act] {
	l := []wrong[[]garage.Act]{
		{turning(api.MaxEvents+1, 0), api.ErrMany}, {make([]garage.Act, api.MaxEvents+1), api.ErrMany}, {slices.Repeat([]garage.Act{act("open", 0, 0)}, 5000), api.ErrMany},
	}
	for _, b := range badActs() {
		other := act("shut", 3)
		if b.e == api.ErrKind {
			other = act("open", 3, 9)
		}
		for _, bad := range [][]garage.Act{{b.x}, {b.x, other}, then(acts(), b.x), {act("close", 9, 0), act("close", 3, 1), b.x, other}} {
			l = append(l, wrong[[]garage.Act]{bad, b.e})
		}
	}
	l = append(l, wrong[[]garage.Act]{append(turning(api.MaxEvents-1, 3), act("measure", 3, 0, 0, -1)), api.ErrRange})
	return l
}

// forbidden has lists of acts that no rule of form excludes, with the index of the first act that is not permitted in the hall H.
func forbidden() []pair[[]garage.Act, int] {
	return []pair[[]garage.Act, int]{
		{[]garage.Act{act("close", 0, 0)}, 0}, {[]garage.Act{act("shoot", 3)}, 0}, {[]garage.Act{act("measure", 3)}, 0}, {[]garage.Act{act("leave", 3, 1), act("close", 1, 0)}, 0}, {then(entered(), act("enter", 1, 0)), 2}, {then(entered(), act("leave", 3, 1), act("arm", 3)), 2},
		{then(acts(), act("arm", 30), act("open", 30, 0)), 8}, {then(acts(), act("remove", 8, 0), act("remove", 8, 0)), 9}, {append(turning(api.MaxEvents-1, 3), act("insert", 3, 1)), api.MaxEvents - 1},
	}
}

// jobs returns the jobs of the chapter's example 8.
func jobs() []garage.Job {
	return []garage.Job{
		{Name: "p", Dummy: 0, Crew: 0, Hall: 0, Time: 5, Soak: 3}, {Name: "q", Dummy: 0, Crew: 1, Hall: 1, Time: 4, Soak: 0}, {Name: "r", Dummy: 1, Crew: 0, Hall: 1, Time: 2, Soak: 9},
	}
}

// many returns jobs with different names that share nothing.
func many(n int) []garage.Job {
	var l []garage.Job
	for i := range n {
		l = append(l, garage.Job{Name: fmt.Sprintf("j%d", i), Dummy: i, Crew: i + 1, Hall: garage.MaxNumber - i, Time: i + 1, Soak: 2 * i})
	}
	return l
}

// slowest returns as many jobs as are permitted, with the greatest numbers; they share all.
func slowest() []garage.Job {
	l := many(api.MaxExact)
	for i := range l {
		l[i].Dummy, l[i].Crew, l[i].Hall, l[i].Time, l[i].Soak = garage.MaxNumber, garage.MaxNumber, garage.MaxNumber, garage.MaxTime, garage.MaxSoak
	}
	return l
}

// badJobs has jobs in the order of their errors.
func badJobs() []wrong[[]garage.Job] {
	l := []wrong[[]garage.Job]{
		{many(api.MaxExact + 1), api.ErrMany}, {make([]garage.Job, api.MaxExact+1), api.ErrMany}, {slices.Repeat(jobs(), 2000), api.ErrMany},
		{slices.Repeat(jobs(), 2), api.ErrTwice}, {append(many(7), garage.Job{Name: "j0"}), api.ErrTwice}, {append(many(7), garage.Job{Name: "j6", Dummy: -1}), api.ErrTwice}, {[]garage.Job{{Name: "a", Time: 1}, {Name: "a"}, {}}, api.ErrTwice}, {[]garage.Job{{Name: "a"}, {Name: "a"}}, api.ErrRange},
	}
	add := func(e api.Errno, j garage.Job) {
		for _, bad := range [][]garage.Job{{j}, append(jobs(), j, garage.Job{}), append([]garage.Job{j}, slices.Repeat(jobs(), 2)...), append(many(api.MaxExact-1), j)} {
			l = append(l, wrong[[]garage.Job]{bad, e})
		}
	}
	for _, name := range badNames {
		add(api.ErrName, garage.Job{Name: name, Dummy: -1})
		add(api.ErrName, garage.Job{Name: name, Time: 1})
	}
	for _, n := range outside(0, garage.MaxNumber) {
		add(api.ErrRange, garage.Job{Name: "a", Dummy: n, Time: 1})
		add(api.ErrRange, garage.Job{Name: "a", Crew: n, Time: 1})
		add(api.ErrRange, garage.Job{Name: "a", Hall: n, Time: 1})
	}
	for _, n := range outside(1, garage.MaxTime) {
		add(api.ErrRange, garage.Job{Name: "a", Time: n})
	}
	for _, n := range outside(0, garage.MaxSoak) {
		add(api.ErrRange, garage.Job{Name: "a", Time: 1, Soak: n})
	}
	return l
}

// badOrders has orders of three jobs in the order of their errors.
func badOrders() []wrong[[]int] {
	l := []wrong[[]int]{
		{nil, api.ErrShape}, {[]int{0, 1}, api.ErrShape}, {[]int{0, 1, 2, 3}, api.ErrShape}, {far, api.ErrShape}, {make([]int, 5000), api.ErrShape},
		{[]int{0, 0, 0}, api.ErrTwice}, {[]int{0, 1, 0}, api.ErrTwice}, {[]int{2, 1, 1}, api.ErrTwice}, {[]int{1, 1, 3}, api.ErrTwice}, {[]int{3, 1, 1}, api.ErrUnknown},
	}
	for _, n := range outside(0, 2) {
		for _, bad := range [][]int{{n, 0, 0}, {0, n, 0}, {0, 1, n}, {n, n, n}} {
			l = append(l, wrong[[]int]{bad, api.ErrUnknown})
		}
	}
	return l
}

// badStarts has starts of three jobs in the order of their errors; those of the jobs p, q and r would be no schedule.
func badStarts() []wrong[[]int] {
	l := []wrong[[]int]{{nil, api.ErrShape}, {[]int{0, 0}, api.ErrShape}, {[]int{0, 0, 0, 0}, api.ErrShape}, {far, api.ErrShape}, {[]int{-1, 0}, api.ErrShape}, {make([]int, 5000), api.ErrShape}}
	for _, n := range outside(0, garage.MaxWait) {
		for _, bad := range [][]int{{n, 0, 0}, {0, n, 0}, {0, 0, n}, {n, n, n}, {4, n, 9}} {
			l = append(l, wrong[[]int]{bad, api.ErrRange})
		}
	}
	return l
}

// someTable returns a table whose steps are often met by small numbers.
func someTable(r *rand.Rand, most int) []garage.Step {
	from, wait := 0, between(r, 0, 3)
	l := table(from, wait)
	for range between(r, 0, garage.MaxSteps-1) {
		from += between(r, 1, most)
		wait += between(r, 0, most)
		l = append(l, garage.Step{From: from, Wait: wait})
	}
	return l
}

// someHall returns a hall whose waits are often over soon.
func someHall(r *rand.Rand) garage.Hall {
	most := one(r, []int{1, 3, 10})
	return garage.Hall{Doors: one(r, []int{1, 1, 2, 3, garage.MaxDoors}), Base: between(r, 0, 4*most), Tables: tables(someTable(r, most), someTable(r, most), someTable(r, most))}
}

// someAct returns an act in a hall, at a tick or soon after it.
func someAct(r *rand.Rand, h garage.Hall, tick int) garage.Act {
	a := act(one(r, kinds), tick+one(r, []int{0, 0, 1, 2, 9, 40}))
	switch a.Kind {
	case "open", "close", "enter", "leave":
		a.Number = r.IntN(h.Doors)
	case "insert", "remove":
		a.Number = r.IntN(2)
	case "measure":
		a.Values = [3]int{between(r, 0, 30), between(r, 0, 30), between(r, 0, 30)}
	}
	return a
}

// someActs returns acts that are permitted; shots are frequent.
func someActs(r *rand.Rand, h garage.Hall, n int) []garage.Act {
	var l []garage.Act
	s := slowState(h, l)
	for tries := 0; len(l) < n && tries < 20*n; tries++ {
		a := someAct(r, h, s.Tick)
		switch {
		// With an armed hall and few doors that are open there are more shots.
		case s.Armed && r.IntN(2) == 0:
			a = act("shoot", a.Tick)
		case r.IntN(3) == 0:
			a = act("arm", a.Tick)
		case a.Kind == "remove" && r.IntN(4) > 0, a.Kind == "open" && r.IntN(3) == 0:
			continue
		}
		if len(slowReasons(s, a)) == 0 {
			l = append(l, a)
			s = slowState(h, l)
		}
	}
	return l
}

// someTrace returns a trace that often stays where it is.
func someTrace(r *rand.Rand) []int {
	var l []int
	for range between(r, 0, 40) {
		l = append(l, between(r, -1, 1))
	}
	return l
}

// someSpans returns permitted spans, of which many touch.
func someSpans(r *rand.Rand) []api.Span {
	var l []api.Span
	end := 0
	for range between(r, 0, 6) {
		from := end + one(r, []int{0, 0, 1, 3})
		end = from + between(r, 1, 5)
		l = append(l, api.Span{From: from, To: end})
	}
	return l
}

// someJobs returns up to some jobs that share many dummies, crews and halls.
func someJobs(r *rand.Rand, most int) []garage.Job {
	numbers := one(r, []int{0, 1, 2, 4, garage.MaxNumber})
	longest := one(r, []int{2, 9, garage.MaxTime})
	var l []garage.Job
	for i := range between(r, 0, most) {
		l = append(l, garage.Job{Name: fmt.Sprintf("j%d", i), Dummy: between(r, 0, numbers), Crew: between(r, 0, numbers), Hall: between(r, 0, numbers), Time: between(r, 1, longest), Soak: between(r, 0, longest)})
	}
	return l
}
