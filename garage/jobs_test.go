package garage_test

import (
	"fmt"
	"slices"
	"testing"

	"crumple/api"
	"crumple/garage"
)

// P9.3 (schedules): jobs, orders and schedules, with ordinary inputs, at their limits, and with their errors in their order.

func TestCheckJobs(t *testing.T) {
	for _, l := range [][]garage.Job{
		nil, {}, jobs(), many(api.MaxExact), slowest(), {{Name: "a", Time: 1}, {Name: "A", Time: 1}, {Name: longest, Time: garage.MaxTime, Soak: garage.MaxSoak, Dummy: garage.MaxNumber, Crew: garage.MaxNumber, Hall: garage.MaxNumber}},
	} {
		want(t, fmt.Sprintf("CheckJobs of %v", l), garage.CheckJobs(l), api.OK)
	}
	for _, b := range badJobs() {
		want(t, "CheckJobs of "+short(b.x), garage.CheckJobs(b.x), b.e)
	}
}

// two returns two jobs that share what is named; their times are 3 and 4, and their soak times 5 and 6.
func two(shared string) []garage.Job {
	l := []garage.Job{{Name: "a", Time: 3, Soak: 5}, {Name: "b", Dummy: 1, Crew: 1, Hall: 1, Time: 4, Soak: 6}}
	for _, c := range shared {
		switch c {
		case 'd':
			l[1].Dummy = 0
		case 'c':
			l[1].Crew = 0
		case 'h':
			l[1].Hall = 0
		}
	}
	return l
}

func TestStarts(t *testing.T) {
	for _, x := range []struct {
		l      []garage.Job
		order  []int
		starts []int
	}{
		{jobs(), []int{0, 1, 2}, []int{0, 8, 12}}, {jobs(), []int{1, 0, 2}, []int{4, 0, 9}}, {jobs(), []int{0, 2, 1}, []int{0, 8, 5}}, {jobs(), []int{2, 1, 0}, []int{6, 2, 0}}, {jobs(), []int{2, 0, 1}, []int{2, 10, 0}}, {jobs(), []int{1, 2, 0}, []int{6, 0, 4}},
		{nil, nil, nil}, {nil, []int{}, nil}, {many(1), []int{0}, []int{0}}, {many(8), []int{7, 6, 5, 4, 3, 2, 1, 0}, make([]int, 8)},
		{two(""), []int{1, 0}, []int{0, 0}}, {two("c"), []int{0, 1}, []int{0, 3}}, {two("c"), []int{1, 0}, []int{4, 0}}, {two("h"), []int{0, 1}, []int{0, 3}}, {two("h"), []int{1, 0}, []int{4, 0}}, {two("d"), []int{0, 1}, []int{0, 8}}, {two("d"), []int{1, 0}, []int{10, 0}}, {two("dch"), []int{0, 1}, []int{0, 8}}, {two("ch"), []int{1, 0}, []int{4, 0}},
		// A job does not go before one that was placed, also where it could.
		{[]garage.Job{{Name: "a", Time: 5}, {Name: "b", Dummy: 1, Crew: 1, Hall: 0, Time: 5}, {Name: "c", Dummy: 2, Crew: 1, Hall: 2, Time: 1}}, []int{0, 1, 2}, []int{0, 5, 10}},
		{slowest(), []int{0, 1, 2, 3, 4, 5, 6, 7}, []int{0, 20000, 40000, 60000, 80000, 100000, 120000, 140000}}, {slowest(), []int{3, 1, 0, 2, 7, 6, 4, 5}, []int{40000, 20000, 60000, 0, 120000, 140000, 100000, 80000}},
	} {
		starts, e := garage.Starts(x.l, x.order)
		wantOK(t, fmt.Sprintf("Starts of %v in %v", x.l, x.order), starts, e, x.starts)
	}
}

func TestSchedules(t *testing.T) {
	for _, x := range []struct {
		l      []garage.Job
		starts []int
		end    int
	}{
		{jobs(), []int{0, 8, 12}, 14}, {jobs(), []int{4, 0, 9}, 11}, {jobs(), []int{0, 8, 5}, 12}, {jobs(), []int{garage.MaxWait, 0, garage.MaxWait - 2}, garage.MaxWait + 5}, {nil, nil, 0}, {[]garage.Job{}, []int{}, 0}, {many(1), []int{garage.MaxWait}, garage.MaxWait + 1}, {many(8), make([]int, 8), 8}, {slowest(), []int{140000, 120000, 100000, 80000, 60000, 40000, 20000, 0}, 150000},
		{two(""), []int{0, 0}, 4}, {two("c"), []int{0, 3}, 7}, {two("c"), []int{4, 0}, 7}, {two("h"), []int{0, 3}, 7}, {two("h"), []int{4, 0}, 7}, {two("h"), []int{4, 0}, 7}, {two("d"), []int{0, 8}, 12}, {two("d"), []int{10, 0}, 13}, {two("dch"), []int{0, 8}, 12}, {two("dch"), []int{0, 9}, 13}, {two("dch"), []int{10, 0}, 13},
	} {
		what := fmt.Sprintf(" of %v at %v", x.l, x.starts)
		want(t, "CheckSchedule"+what, garage.CheckSchedule(x.l, x.starts), api.OK)
		end, e := garage.End(x.l, x.starts)
		wantOK(t, "End"+what, end, e, x.end)
	}
	for _, x := range []struct {
		l      []garage.Job
		starts []int
	}{
		{jobs(), []int{0, 0, 0}}, {jobs(), []int{0, 7, 12}}, {jobs(), []int{0, 8, 11}}, {jobs(), []int{4, 0, 8}}, {jobs(), []int{0, 8, 4}}, {slowest(), []int{139999, 120000, 100000, 80000, 60000, 40000, 20000, 0}},
		{two("c"), []int{0, 2}}, {two("c"), []int{0, 0}}, {two("c"), []int{3, 0}}, {two("h"), []int{0, 2}}, {two("h"), []int{3, 0}}, {two("d"), []int{0, 7}}, {two("d"), []int{0, 3}}, {two("d"), []int{9, 0}}, {two("d"), []int{4, 0}}, {two("d"), []int{5, 5}}, {two("dch"), []int{0, 7}}, {two("dch"), []int{9, 0}},
	} {
		what := fmt.Sprintf(" of %v at %v", x.l, x.starts)
		want(t, "CheckSchedule"+what, garage.CheckSchedule(x.l, x.starts), api.ErrConflict)
		end, e := garage.End(x.l, x.starts)
		wantError(t, "End"+what, end, e, api.ErrConflict)
	}
}

func TestPlanAndBound(t *testing.T) {
	indices := []int{0, 1, 2, 3, 4, 5, 6, 7}
	// The last job of one dummy is that with the greatest soak time.
	soaking := func(soaks ...int) []garage.Job {
		l := many(len(soaks))
		for i, soak := range soaks {
			l[i].Dummy, l[i].Time, l[i].Soak = 0, 1, soak
		}
		return l
	}
	for _, x := range []struct {
		l          []garage.Job
		order      []int
		end, bound int
	}{
		{jobs(), []int{1, 0, 2}, 11, 9}, {nil, nil, 0, 0}, {many(1), []int{0}, 1, 1}, {many(8), indices, 8, 8}, {slowest(), indices, 150000, 150000},
		{two(""), []int{0, 1}, 4, 4}, {two("c"), []int{0, 1}, 7, 7}, {two("h"), []int{0, 1}, 7, 7}, {two("d"), []int{0, 1}, 12, 12}, {two("dch"), []int{0, 1}, 12, 12},
		// Of several best orders it is the first one.
		{soaking(0, 9, 0), []int{0, 2, 1}, 3, 3}, {soaking(9, 0, 0), []int{1, 2, 0}, 3, 3}, {soaking(9, 9), []int{0, 1}, 11, 11}, {soaking(5, 9, 9), []int{0, 1, 2}, 17, 17}, {soaking(9, 5, 9), []int{0, 1, 2}, 17, 17}, {soaking(9, 5, 7), []int{1, 2, 0}, 15, 15}, {soaking(0, 0, 0, 0, 0, 0, 0, 9), indices, 8, 8}, {soaking(9, 0, 0, 0, 0, 0, 0, 0), []int{1, 2, 3, 4, 5, 6, 7, 0}, 8, 8},
		// A crew's, a hall's and a dummy's bound, each the greatest one.
		{[]garage.Job{{Name: "a", Time: 5, Soak: 1}, {Name: "b", Dummy: 1, Hall: 1, Time: 6}, {Name: "c", Dummy: 0, Crew: 1, Hall: 1, Time: 1, Soak: 2}}, []int{0, 1, 2}, 12, 11},
	} {
		order, end, e := garage.Plan(x.l)
		wantOK(t, fmt.Sprintf("Plan of %v", x.l), plan{order, end}, e, plan{x.order, x.end})
		bound, e := garage.Bound(x.l)
		wantOK(t, fmt.Sprintf("Bound of %v", x.l), bound, e, x.bound)
	}
}

// wantJobErrors checks the error that all functions of jobs return, whatever the later arguments are.
func wantJobErrors(t *testing.T, what string, l []garage.Job, wanted api.Errno) {
	t.Helper()
	for _, indices := range [][]int{nil, {-1}, {0, 0, 0}, {garage.MaxWait + 1}} {
		starts, e := garage.Starts(l, indices)
		wantError(t, "Starts of "+what, starts, e, wanted)
		end, e := garage.End(l, indices)
		wantError(t, "End of "+what, end, e, wanted)
		want(t, "CheckSchedule of "+what, garage.CheckSchedule(l, indices), wanted)
	}
	order, end, e := garage.Plan(l)
	wantError(t, "Plan of "+what, plan{order, end}, e, wanted)
	bound, e := garage.Bound(l)
	wantError(t, "Bound of "+what, bound, e, wanted)
}

func TestErrorsOfJobs(t *testing.T) {
	for _, b := range badJobs() {
		wantJobErrors(t, short(b.x), b.x, b.e)
	}
	for _, b := range badOrders() {
		starts, e := garage.Starts(jobs(), b.x)
		wantError(t, "Starts in "+short(b.x), starts, e, b.e)
	}
	for _, b := range badStarts() {
		end, e := garage.End(jobs(), b.x)
		wantError(t, "End at "+short(b.x), end, e, b.e)
		want(t, "CheckSchedule at "+short(b.x), garage.CheckSchedule(jobs(), b.x), b.e)
	}
	starts, e := garage.Starts(nil, []int{0})
	wantError(t, "Starts of an order of no jobs", starts, e, api.ErrShape)
	end, e := garage.End(nil, []int{0})
	wantError(t, "End of starts of no jobs", end, e, api.ErrShape)
}

func TestSchedulesByTheDefinition(t *testing.T) {
	r := dice(4)
	fits, conflicts := 0, 0
	for range 5000 {
		l := someJobs(r, api.MaxExact)
		order := r.Perm(len(l))
		what := fmt.Sprintf(" of %v", l)
		wanted, last := slowStarts(l, order)
		starts, e := garage.Starts(l, order)
		wantOK(t, fmt.Sprintf("Starts in %v", order)+what, starts, e, wanted)
		bound, e := garage.Bound(l)
		wantOK(t, "Bound"+what, bound, e, slowBound(l))
		end, e := garage.End(l, starts)
		wantOK(t, fmt.Sprintf("End at %v", starts)+what, end, e, last)
		if len(l) == 0 {
			continue
		}
		// The same starts, but for one.
		i := r.IntN(len(l))
		starts[i] = max(0, starts[i]+one(r, []int{-1, -1, 1, 2, -starts[i], garage.MaxWait - starts[i]}))
		what = fmt.Sprintf(" at %v", starts) + what
		end, e = garage.End(l, starts)
		if slowConflict(l, starts) {
			conflicts++
			want(t, "CheckSchedule"+what, garage.CheckSchedule(l, starts), api.ErrConflict)
			wantError(t, "End"+what, end, e, api.ErrConflict)
			continue
		}
		fits++
		want(t, "CheckSchedule"+what, garage.CheckSchedule(l, starts), api.OK)
		last = 0
		for i, j := range l {
			last = max(last, starts[i]+j.Time)
		}
		wantOK(t, "End"+what, end, e, last)
	}
	want(t, fmt.Sprintf("whether many fit, and many do not (%d, %d)", fits, conflicts), min(fits, conflicts) > 500, true)
}

func TestPlansByTheDefinition(t *testing.T) {
	r := dice(5)
	above, moved := 0, 0
	for i := range 3000 {
		most := 6
		if i%300 == 0 {
			most = api.MaxExact
		}
		l := someJobs(r, most)
		wanted := slowPlan(l)
		order, end, e := garage.Plan(l)
		wantOK(t, fmt.Sprintf("Plan of %v", l), plan{order, end}, e, wanted)
		if end > slowBound(l) {
			above++
		}
		if !slices.IsSorted(order) {
			moved++
		}
	}
	want(t, fmt.Sprintf("whether many end after the bound, and many are no first orders (%d, %d)", above, moved), min(above, moved) > 50, true)
}
