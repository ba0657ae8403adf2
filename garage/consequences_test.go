package garage_test

import (
	"fmt"
	"slices"
	"testing"

	"crumple/api"
	"crumple/garage"
)

// P9.5 (consequences): what follows from the results, for many inputs; the dice are the same on each run.

func TestNothingIsArmedWhileItIsNotSafe(t *testing.T) {
	r := dice(10)
	armed := 0
	for range 1500 {
		h := someHall(r)
		l := someActs(r, h, between(r, 0, 60))
		states, e := garage.States(h, l)
		want(t, "States", e, api.OK)
		for i, s := range states {
			if !s.Armed {
				continue
			}
			armed++
			what := fmt.Sprintf("in the state %v after %v", s, l[:i+1])
			want(t, "whether a door is open "+what, slices.Contains(s.Open[:], true), false)
			want(t, "how many are inside "+what, s.People, 0)
			want(t, "the keys "+what, s.Keys, [2]bool{true, true})
		}
	}
	want(t, fmt.Sprintf("whether many halls are armed (%d)", armed), armed > 1000, true)
}

// over returns the tick at which the waits of the last shot before an act are over; a shot after which nothing is measured has no such tick.
func over(h garage.Hall, l []garage.Act) (tick int, shot, measured bool) {
	last := 0
	for _, a := range l {
		switch a.Kind {
		case "shoot":
			last, shot, measured = a.Tick, true, false
		case "measure":
			tick, measured = max(last+h.Base, a.Tick+slowWait(h, a.Values)), true
		}
	}
	return tick, shot, measured
}

func TestNobodyEntersBeforeTheWaitsAreOver(t *testing.T) {
	r := dice(11)
	entered, early := 0, 0
	for range 1000 {
		h := someHall(r)
		l := someActs(r, h, between(r, 20, 80))
		for i, a := range l {
			tick, shot, measured := over(h, l[:i])
			if !shot {
				continue
			}
			what := fmt.Sprintf("%v after %v in %v", a, l[:i], h)
			if a.Kind == "enter" || a.Kind == "open" || a.Kind == "arm" {
				entered++
				want(t, "whether it is measured before "+what, measured, true)
				want(t, "whether the waits are over before "+what, tick <= a.Tick, true)
			}
			// Nor may anybody enter at a tick before.
			for door := range h.Doors {
				e := act("enter", max(a.Tick, tick-1), door)
				if measured && e.Tick >= tick {
					continue
				}
				early++
				_, _, errno := garage.Run(h, then(l[:i], e))
				want(t, fmt.Sprintf("Run of %v before %s", e, what), errno, api.ErrRule)
			}
		}
	}
	want(t, fmt.Sprintf("whether many enter, and many would be early (%d, %d)", entered, early), min(entered, early) > 1000, true)
}

func TestAnActHasNoReasonsExactlyIfItMayFollow(t *testing.T) {
	r := dice(12)
	may, mayNot := 0, 0
	for range 1500 {
		h := someHall(r)
		l := someActs(r, h, between(r, 0, 40))
		state, _, e := garage.Run(h, l)
		want(t, "Run", e, api.OK)
		for range 8 {
			a := someAct(r, h, max(0, state.Tick-1))
			what := fmt.Sprintf(" of %v after %v in %v", a, l, h)
			reasons, e := garage.Reasons(h, l, a)
			want(t, "Reasons"+what, e, api.OK)
			_, i, e := garage.Run(h, then(l, a))
			permitted, e2 := garage.Permitted(h, l, a.Tick, a.Number)
			want(t, "Permitted"+what, e2, api.OK)
			want(t, "whether its kind is permitted"+what, slices.Contains(permitted, a.Kind), len(reasons) == 0)
			if len(reasons) == 0 {
				may++
				want(t, "Run"+what, e, api.OK)
				continue
			}
			mayNot++
			want(t, "Run"+what, e, api.ErrRule)
			want(t, "the index of Run"+what, i, len(l))
		}
	}
	want(t, fmt.Sprintf("whether many may follow, and many may not (%d, %d)", may, mayNot), min(may, mayNot) > 1000, true)
}

func TestGreaterNumbersLeadToNoLesserWaits(t *testing.T) {
	r := dice(13)
	greater := 0
	for range 5000 {
		h := someHall(r)
		var a, b [3]int
		for i := range a {
			a[i] = between(r, 0, 30)
			b[i] = a[i] + one(r, []int{0, 0, 1, 5, 50})
		}
		first, e := garage.Wait(h, a)
		want(t, "Wait", e, api.OK)
		second, e := garage.Wait(h, b)
		want(t, "Wait", e, api.OK)
		want(t, fmt.Sprintf("whether the wait of %v is less after %v than after %v", h, b, a), second < first, false)
		if second > first {
			greater++
		}
	}
	want(t, fmt.Sprintf("whether many are greater (%d)", greater), greater > 500, true)
}

// schedules visits all schedules of jobs with starts that are at most a number.
func schedules(l []garage.Job, most int, visit func(starts []int)) {
	starts := make([]int, len(l))
	var from func(i int)
	from = func(i int) {
		if i == len(l) {
			if garage.CheckSchedule(l, starts) == api.OK {
				visit(starts)
			}
			return
		}
		for starts[i] = 0; starts[i] <= most; starts[i]++ {
			from(i + 1)
		}
		starts[i] = 0
	}
	from(0)
}

func TestNoScheduleEndsBeforeTheBoundOrTheBestOrder(t *testing.T) {
	r := dice(14)
	seen, met := 0, 0
	for range 100 {
		l := someJobs(r, 4)
		for i := range l {
			l[i].Time, l[i].Soak = 1+l[i].Time%4, l[i].Soak%4
		}
		_, best, e := garage.Plan(l)
		want(t, "Plan", e, api.OK)
		bound, e := garage.Bound(l)
		want(t, "Bound", e, api.OK)
		want(t, fmt.Sprintf("whether the best order of %v ends before the bound", l), best < bound, false)
		schedules(l, 10, func(starts []int) {
			end, e := garage.End(l, starts)
			want(t, "End", e, api.OK)
			if end < best || end < bound {
				t.Errorf("the schedule %v of %v ends at %d, before %d or %d", starts, l, end, best, bound)
			}
			seen++
			if end == best {
				met++
			}
		})
	}
	want(t, fmt.Sprintf("whether there are many schedules, and best ones (%d, %d)", seen, met), seen > 10000 && met > 100, true)
}

func TestEachOrderGivesASchedule(t *testing.T) {
	r := dice(15)
	for range 1000 {
		l := someJobs(r, api.MaxExact)
		best, end, e := garage.Plan(l)
		want(t, "Plan", e, api.OK)
		bound, e := garage.Bound(l)
		want(t, "Bound", e, api.OK)
		for i := range 5 {
			order := r.Perm(len(l))
			if i == 0 {
				order = best
			}
			what := fmt.Sprintf(" of %v in %v", l, order)
			starts, e := garage.Starts(l, order)
			want(t, "Starts"+what, e, api.OK)
			want(t, "CheckSchedule"+what, garage.CheckSchedule(l, starts), api.OK)
			last, e := garage.End(l, starts)
			want(t, "End"+what, e, api.OK)
			want(t, "whether it ends before the best one"+what, last < end, false)
			want(t, "whether it ends before the bound"+what, last < bound, false)
			if i == 0 {
				want(t, "the end of the best order"+what, last, end)
			}
		}
	}
}

func TestAJobLessOrASoakTimeThatIsLessEndsNoLater(t *testing.T) {
	r := dice(16)
	earlier := 0
	for range 1500 {
		l := someJobs(r, 6)
		_, end, e := garage.Plan(l)
		want(t, "Plan", e, api.OK)
		bound, e := garage.Bound(l)
		want(t, "Bound", e, api.OK)
		for i := range l {
			sooner := slices.Clone(l)
			sooner[i].Soak = r.IntN(l[i].Soak + 1)
			for _, less := range [][]garage.Job{slices.Delete(slices.Clone(l), i, i+1), sooner} {
				what := fmt.Sprintf(" of %v, after that of %v", less, l)
				_, other, e := garage.Plan(less)
				want(t, "Plan"+what, e, api.OK)
				want(t, "whether the end is later"+what, other > end, false)
				lesser, e := garage.Bound(less)
				want(t, "Bound"+what, e, api.OK)
				want(t, "whether the bound is greater"+what, lesser > bound, false)
				if other < end {
					earlier++
				}
			}
		}
	}
	want(t, "whether many end earlier", earlier > 1000, true)
}

func TestActsAreParsedAsTheyWerePrinted(t *testing.T) {
	r := dice(17)
	for range 2000 {
		h := someHall(r)
		l := someActs(r, h, between(r, 0, 100))
		s, e := garage.Print(h, l)
		want(t, "Print", e, api.OK)
		again, i, e := garage.Parse(h, s)
		wantOK(t, fmt.Sprintf("Parse of %q", s), parsed{again, i}, e, parsed{l, 0})
	}
}
