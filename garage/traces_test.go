package garage_test

import (
	"fmt"
	"slices"
	"testing"

	"crumple/api"
	"crumple/garage"
)

// P9.2 (what was done): admissions, shots, spans and traces, with ordinary inputs, at their limits, and with their errors in their order; acts_test.go has the errors of acts.

// spans returns spans by their ends.
func spans(numbers ...int) []api.Span {
	var l []api.Span
	for p := range slices.Chunk(numbers, 2) {
		l = append(l, api.Span{From: p[0], To: p[1]})
	}
	return l
}

func TestAdmittedAndShots(t *testing.T) {
	late := then(acts(), act("measure", 12, 50, 0, 0))
	again := then(late, act("measure", 20, 0, 0, 0))
	var halves []int
	for i := range 332 {
		halves = append(halves, i/2)
	}
	for _, x := range []struct {
		h        garage.Hall
		l        []garage.Act
		admitted int
		shots    []int
	}{
		{hall(), nil, 0, nil}, {hall(), acts()[:7], 0, nil}, {hall(), acts(), garage.None, []int{8}}, {hall(), late, 42, []int{8}}, {hall(), again, 25, []int{8}}, {hall(), then(acts()[:7], act("disarm", 9)), 0, nil},
		{hall(), then(again, act("arm", 25), act("shoot", 30)), garage.None, []int{8, 30}}, {hall(), then(again, act("arm", 25), act("shoot", 30), act("measure", 30)), 40, []int{8, 30}}, {hall(), then(again, act("arm", 25), act("measure", 26)), 31, []int{8}},
		// A shot waits for what is measured after it, also if the one before was measured later.
		{hall(), then(again, act("arm", 25), act("measure", 26, 50, 0, 0), act("shoot", 27)), garage.None, []int{8, 27}},
		{noWaits(), shooting(3), 1, []int{0, 0, 1}}, {noWaits(), shooting(332), 165, halves},
	} {
		admitted, e := garage.Admitted(x.h, x.l)
		wantOK(t, fmt.Sprintf("Admitted of %v", x.l), admitted, e, x.admitted)
		shots, e := garage.Shots(x.h, x.l)
		wantOK(t, fmt.Sprintf("Shots of %v", x.l), shots, e, x.shots)
	}
}

func TestOccupied(t *testing.T) {
	inside := entered()
	for _, x := range []struct {
		l     []garage.Act
		spans []api.Span
	}{
		{nil, nil}, {acts(), spans(2, 4)}, {inside, nil}, {then(inside, act("insert", 2, 0)), nil}, {then(inside, act("insert", 3, 0)), spans(2, 3)}, {then(inside, act("close", 9, 0)), spans(2, 9)},
		// Somebody comes before the first one leaves.
		{then(inside, act("enter", 5, 0), act("leave", 7, 0)), spans(2, 7)}, {then(inside, act("enter", 5, 0), act("leave", 7, 0), act("leave", 8, 0), act("insert", 9, 1)), spans(2, 8)},
		// Spans that touch are one, those of no ticks are left out.
		{then(inside, act("leave", 2, 0)), nil}, {then(inside, act("leave", 2, 0), act("insert", 9, 0)), nil}, {then(inside, act("leave", 5, 0), act("enter", 5, 0), act("leave", 8, 0)), spans(2, 8)}, {then(inside, act("leave", 5, 0), act("enter", 6, 0), act("leave", 8, 0)), spans(2, 5, 6, 8)}, {then(inside, act("leave", 5, 0), act("enter", 5, 0), act("leave", 5, 0), act("enter", 5, 0), act("leave", 9, 0), act("enter", 9, 0), act("close", 11, 0)), spans(2, 11)},
		{then(inside, act("leave", 5, 0), act("enter", 7, 0), act("leave", 7, 0), act("enter", 8, 0), act("insert", 9, 0)), spans(2, 5, 8, 9)}, {then(inside, act("leave", 2, 0), act("enter", 2, 0), act("insert", 4, 0)), spans(2, 4)}, {then(inside, act("leave", 4, 0), act("enter", 6, 0)), spans(2, 4)},
		{[]garage.Act{act("open", 0, 0), act("enter", 0, 0), act("leave", api.MaxTick, 0)}, spans(0, api.MaxTick)},
	} {
		got, e := garage.Occupied(hall(), x.l)
		wantOK(t, fmt.Sprintf("Occupied of %v", x.l), got, e, x.spans)
	}
}

func TestArmed(t *testing.T) {
	ready := acts()[:7]
	late := then(acts(), act("measure", 12, 50, 0, 0))
	for _, x := range []struct {
		h     garage.Hall
		l     []garage.Act
		spans []api.Span
	}{
		{hall(), nil, nil}, {hall(), acts(), spans(6, 8)}, {hall(), ready, nil}, {hall(), then(ready, act("disarm", 6)), nil}, {hall(), then(ready, act("disarm", 6), act("open", 9, 0)), nil}, {hall(), then(ready, act("disarm", 7), act("open", 9, 0)), spans(6, 7)}, {hall(), late, spans(6, 8)},
		{hall(), then(ready, act("disarm", 7), act("arm", 7), act("shoot", 9)), spans(6, 9)}, {hall(), then(ready, act("disarm", 7), act("arm", 8), act("shoot", 9)), spans(6, 7, 8, 9)}, {hall(), then(ready, act("disarm", 7), act("arm", 7)), spans(6, 7)},
		// The last act is neither a disarm nor a shot.
		{hall(), then(late, act("arm", 42), act("measure", 50)), spans(6, 8, 42, 50)}, {hall(), then(late, act("arm", 42), act("measure", 50), act("measure", 51), act("disarm", 53)), spans(6, 8, 42, 53)}, {hall(), then(late, act("arm", 42)), spans(6, 8)},
		{noWaits(), shooting(6), nil}, {noWaits(), then(shooting(6), act("arm", 2), act("shoot", 4), act("measure", 4), act("arm", 4), act("disarm", api.MaxTick)), spans(2, api.MaxTick)},
	} {
		got, e := garage.Armed(x.h, x.l)
		wantOK(t, fmt.Sprintf("Armed of %v", x.l), got, e, x.spans)
	}
}

func TestMoved(t *testing.T) {
	trace := []int{0, 0, 1, 1, 2}
	const far = garage.MaxMeasure
	var all []int
	for i := range garage.MaxTrace {
		all = append(all, far-2*far*(i%2))
	}
	for _, x := range []struct {
		trace     []int
		permitted []api.Span
		moved     []int
	}{
		{trace, nil, []int{2, 4}}, {trace, spans(2, 4), []int{4}}, {trace, spans(2, 3), []int{4}}, {trace, spans(1, 2), []int{2, 4}}, {trace, spans(3, 4), []int{2, 4}}, {trace, spans(4, 5), []int{2}}, {trace, spans(0, 2, 3, 4, 5, 9), []int{2, 4}}, {trace, spans(2, 3, 3, 5), nil}, {trace, spans(0, api.MaxTick), nil}, {trace, spans(0, 1, 4, api.MaxTick), []int{2}},
		{nil, nil, nil}, {nil, spans(0, 9), nil}, {[]int{7}, nil, nil}, {[]int{7, 7, 7}, nil, nil}, {[]int{7, -7, 7}, nil, []int{1, 2}}, {[]int{0, far, -far, far}, spans(1, 2), []int{2, 3}},
		{all, spans(0, 1, 2, garage.MaxTrace-1), []int{1, garage.MaxTrace - 1}}, {all, spans(0, garage.MaxTrace), nil},
	} {
		moved, e := garage.Moved(x.trace, x.permitted)
		wantOK(t, fmt.Sprintf("Moved of %v with %v", x.trace, x.permitted), moved, e, x.moved)
	}
}

// longSpans returns some permitted spans; each two touch.
func longSpans(n int) []api.Span {
	var l []api.Span
	for i := range n {
		l = append(l, api.Span{From: 2 * i, To: 2*i + 2})
	}
	return l
}

func TestErrorsOfMoved(t *testing.T) {
	moved, e := garage.Moved(make([]int, garage.MaxTrace), longSpans(garage.MaxSpans))
	wantOK(t, "Moved of the longest trace", moved, e, nil)
	badTraces := []wrong[[]int]{{make([]int, garage.MaxTrace+1), api.ErrMany}, {slices.Repeat(far, 300), api.ErrMany}}
	for _, n := range outside(-garage.MaxMeasure, garage.MaxMeasure) {
		for _, bad := range [][]int{{n}, {0, n, 0}, append(make([]int, garage.MaxTrace-1), n)} {
			badTraces = append(badTraces, wrong[[]int]{bad, api.ErrRange})
		}
	}
	for _, b := range badTraces {
		for _, permitted := range [][]api.Span{nil, spans(2, 4), spans(2, 2), longSpans(garage.MaxSpans + 1)} {
			moved, e := garage.Moved(b.x, permitted)
			wantError(t, fmt.Sprintf("Moved of %s with %s", short(b.x), short(permitted)), moved, e, b.e)
		}
	}
	badSpans := []wrong[[]api.Span]{
		{longSpans(garage.MaxSpans + 1), api.ErrMany}, {make([]api.Span, garage.MaxSpans+1), api.ErrMany}, {make([]api.Span, 5000), api.ErrMany},
		{spans(1, 4, 3, 5), api.ErrOverlap}, {spans(1, 4, 3, 4, 7, 7), api.ErrOverlap}, {spans(1, 4, 0, 1), api.ErrOverlap}, {spans(1, 4, 1, 4), api.ErrOverlap}, {spans(0, 9, 9, 12, 11, 12), api.ErrOverlap}, {append(longSpans(garage.MaxSpans-1), api.Span{From: 61, To: 70}), api.ErrOverlap},
	}
	bad := []api.Span{{}, {From: 5, To: 5}, {From: 5, To: 4}, {From: -1, To: 1}, {From: -1, To: -1}, {From: 1, To: api.MaxTick + 1}, {From: api.MaxTick, To: api.MaxTick}, {From: api.MaxTick, To: api.MaxTick + 1}}
	for _, n := range far {
		bad = append(bad, api.Span{From: n, To: 3}, api.Span{From: 3, To: n}, api.Span{From: n, To: n})
	}
	for _, s := range bad {
		if s.From >= 0 && s.From < s.To && s.To <= api.MaxTick {
			t.Fatalf("the span %v is one", s)
		}
		// Each has what would be an overlap, too, before it or after it.
		badSpans = append(badSpans, wrong[[]api.Span]{[]api.Span{s}, api.ErrSpan}, wrong[[]api.Span]{[]api.Span{{From: 0, To: 99}, s, {From: 0, To: 99}}, api.ErrSpan}, wrong[[]api.Span]{append(longSpans(garage.MaxSpans-1), s), api.ErrSpan})
	}
	for _, b := range badSpans {
		for _, trace := range [][]int{nil, {0, 1, 0, 1}} {
			moved, e := garage.Moved(trace, b.x)
			wantError(t, fmt.Sprintf("Moved of %v with %s", trace, short(b.x)), moved, e, b.e)
		}
	}
}

func TestWhatWasDoneByTheDefinition(t *testing.T) {
	r := dice(3)
	var several [3]int
	for range 1500 {
		h := someHall(r)
		l := someActs(r, h, between(r, 0, 60))
		what := fmt.Sprintf(" of %v in %v", l, h)
		admitted, e := garage.Admitted(h, l)
		wantOK(t, "Admitted"+what, admitted, e, slowState(h, l).Admitted)
		var wanted []int
		for _, a := range l {
			if a.Kind == "shoot" {
				wanted = append(wanted, a.Tick)
			}
		}
		shots, e := garage.Shots(h, l)
		wantOK(t, "Shots"+what, shots, e, wanted)
		occupied, e := garage.Occupied(h, l)
		wantOK(t, "Occupied"+what, occupied, e, slowSpans(l, func(l []garage.Act) bool { return count(l, "enter") > count(l, "leave") }))
		armed, e := garage.Armed(h, l)
		wantOK(t, "Armed"+what, armed, e, slowSpans(l, func(l []garage.Act) bool {
			a, _ := latest(l, 0, "arm", "disarm", "shoot")
			return a.Kind == "arm"
		}))
		for i, n := range []int{len(occupied), len(armed), len(shots)} {
			if n > 1 {
				several[i]++
			}
		}
	}
	want(t, fmt.Sprintf("whether many have several spans, and shots %v", several), slices.Min(several[:]) > 100, true)
	for range 3000 {
		trace, permitted := someTrace(r), someSpans(r)
		moved, e := garage.Moved(trace, permitted)
		wantOK(t, fmt.Sprintf("Moved of %v with %v", trace, permitted), moved, e, slowMoved(trace, permitted))
	}
}
