package garage_test

import (
	"math/rand/v2"
	"testing"

	"crumple/api"
	"crumple/garage"
)

// Rules that hold everywhere: arguments stay as they are, results share no memory, and no argument makes a function panic.

func TestArgumentsStayAsTheyAre(t *testing.T) {
	h, l, j, order, starts, trace, permitted := hall(), acts(), jobs(), []int{1, 0, 2}, []int{4, 0, 9}, []int{0, 0, 1, 1, 2}, spans(2, 4)
	for range 2 {
		garage.CheckHall(h)
		garage.Wait(h, [3]int{50, 80, 7})
		garage.CheckAct(h, l[0])
		garage.Run(h, l)
		states, e := garage.States(h, l)
		want(t, "States", e, api.OK)
		clear(states)
		reasons, e := garage.Reasons(h, l, act("arm", 7))
		wantOK(t, "Reasons", reasons, e, []string{"tick", "wait"})
		clear(reasons)
		kinds, e := garage.Permitted(h, l, 9, 0)
		wantOK(t, "Permitted", kinds, e, []string{"remove", "measure"})
		clear(kinds)
		garage.Admitted(h, l)
		shots, e := garage.Shots(h, l)
		wantOK(t, "Shots", shots, e, []int{8})
		clear(shots)
		occupied, e := garage.Occupied(h, l)
		wantOK(t, "Occupied", occupied, e, spans(2, 4))
		clear(occupied)
		armed, e := garage.Armed(h, l)
		wantOK(t, "Armed", armed, e, spans(6, 8))
		clear(armed)
		moved, e := garage.Moved(trace, permitted)
		wantOK(t, "Moved", moved, e, []int{4})
		clear(moved)
		garage.CheckJobs(j)
		placed, e := garage.Starts(j, order)
		wantOK(t, "Starts", placed, e, starts)
		clear(placed)
		garage.End(j, starts)
		garage.CheckSchedule(j, starts)
		best, end, e := garage.Plan(j)
		wantOK(t, "Plan", plan{best, end}, e, plan{order, 11})
		clear(best)
		garage.Bound(j)
		garage.Print(h, l)
		again, i, e := garage.Parse(h, actsText)
		wantOK(t, "Parse", parsed{again, i}, e, parsed{l, 0})
		clear(again)
		want(t, "the hall", h, hall())
		want(t, "the acts", l, acts())
		want(t, "the jobs", j, jobs())
		want(t, "the order", order, []int{1, 0, 2})
		want(t, "the starts", starts, []int{4, 0, 9})
		want(t, "the trace", trace, []int{0, 0, 1, 1, 2})
		want(t, "the spans", permitted, spans(2, 4))
	}
}

// anyNumbers returns numbers that are hardly ever all in their ranges.
func anyNumbers(r *rand.Rand) func() int {
	numbers := append([]int{0, 1, 1, 2, 3, 5, -1, 8, 16, 17, 100, 10000, 100000, garage.MaxWait, api.MaxTick}, far...)
	most := between(r, 4, len(numbers))
	return func() int { return one(r, numbers[:most]) }
}

// anyHall returns a hall that is hardly ever one.
func anyHall(r *rand.Rand, number func() int) garage.Hall {
	h := garage.Hall{Doors: number(), Base: number()}
	for i := range h.Tables {
		for range r.IntN(4) {
			h.Tables[i] = append(h.Tables[i], garage.Step{From: number(), Wait: number()})
		}
	}
	return h
}

// anyAct returns an act that is hardly ever one.
func anyAct(r *rand.Rand, number func() int) garage.Act {
	a := garage.Act{Tick: number(), Kind: one(r, append(badKinds, kinds...)), Number: number()}
	if r.IntN(2) == 0 {
		a.Values = [3]int{number(), number(), number()}
	}
	return a
}

func TestNothingPanics(t *testing.T) {
	r := dice(20)
	for range 5000 {
		number := anyNumbers(r)
		var anyActs []garage.Act
		var anyJobs []garage.Job
		var anyList []int
		var anySpans []api.Span
		for range r.IntN(5) {
			anyActs = append(anyActs, anyAct(r, number))
			anyJobs = append(anyJobs, garage.Job{Name: one(r, []string{"", "a", "b", "c", "-"}), Dummy: number(), Crew: number(), Hall: number(), Time: number(), Soak: number()})
		}
		for range r.IntN(5) {
			anyList = append(anyList, number())
			anySpans = append(anySpans, api.Span{From: number(), To: number()})
		}
		garage.Moved(anyList, anySpans)
		// Each argument that is wrong comes with others that are right, too.
		for _, l := range [][]garage.Job{anyJobs, jobs()} {
			garage.CheckJobs(l)
			garage.Starts(l, anyList)
			garage.End(l, anyList)
			garage.CheckSchedule(l, anyList)
			garage.Plan(l)
			garage.Bound(l)
		}
		for _, h := range []garage.Hall{anyHall(r, number), hall(), greatest()} {
			garage.CheckHall(h)
			garage.Wait(h, [3]int{number(), number(), number()})
			garage.Parse(h, actsText)
			for _, l := range [][]garage.Act{anyActs, acts()} {
				garage.CheckAct(h, anyAct(r, number))
				garage.Run(h, l)
				garage.States(h, l)
				garage.Reasons(h, l, anyAct(r, number))
				garage.Permitted(h, l, number(), number())
				garage.Admitted(h, l)
				garage.Shots(h, l)
				garage.Occupied(h, l)
				garage.Armed(h, l)
				garage.Print(h, l)
			}
		}
	}
}

func TestNoStringPanics(t *testing.T) {
	r := dice(21)
	bytes := []byte("open0149 -\n\x00")
	for range 5000 {
		s := []byte(actsText + "measure 12 50 0 0\n")
		for range between(r, 0, 3) {
			s[r.IntN(len(s))] = one(r, bytes)
		}
		s = s[:between(r, 0, len(s))]
		l, i, e := garage.Parse(hall(), string(s))
		if e == api.OK {
			again, e := garage.Print(hall(), l)
			wantOK(t, "Print", again, e, string(s))
		} else {
			wantError(t, "Parse", l, e, e)
		}
		want(t, "whether the index is that of a line", i >= 0 && i <= len(s), true)
	}
}
