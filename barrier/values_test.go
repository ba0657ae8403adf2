package barrier_test

import (
	"math/rand/v2"
	"slices"
	"testing"

	"crumple/api"
	"crumple/barrier"
)

// Rules that hold everywhere: arguments stay as they are, results share no memory, and no argument makes a function panic.

// spoil overwrites a result.
func spoil[A any](l []A, _ api.Errno) {
	clear(l)
}

func TestArgumentsStayAsTheyAre(t *testing.T) {
	l, x, table := gates(), track(), []int{0, 9, 18, 27, 26, 25, 24}
	parts, w := crash(), wall(40, 50)
	forces, ways := []int{3, 1, 2}, []int{1, 2, 3}
	classes := []barrier.Class{class("a", to(0, 9), to(0, 9))}
	for range 2 {
		spoil(barrier.Speeds(l))
		barrier.Speed(l)
		spoil(barrier.Run(x, 1))
		spoil(barrier.Reached(x))
		spoil(barrier.Table(x))
		barrier.CheckTable(x, table, 2)
		barrier.Momentum(parts)
		barrier.Balanced(parts, w)
		spoil(barrier.Explaining(parts, w))
		barrier.Peak(w)
		barrier.Centre(w, 0)
		barrier.Crush(forces, ways)
		sure, possible, e := barrier.Classes(classes, to(1, 2), ratio(0, 1))
		want(t, "Classes", e, api.OK)
		clear(sure)
		want(t, "the classes that are possible", possible, words("a"))
		clear(possible)
		barrier.Print(x)
		want(t, "the gates", l, gates())
		want(t, "the tow", x, track())
		want(t, "the table", table, []int{0, 9, 18, 27, 26, 25, 24})
		want(t, "the parts", parts, crash())
		want(t, "the wall", w, wall(40, 50))
		want(t, "the forces", forces, []int{3, 1, 2})
		want(t, "the ways", ways, []int{1, 2, 3})
		want(t, "the classes", classes, []barrier.Class{class("a", to(0, 9), to(0, 9))})
	}
	before, _, e := barrier.Parse(trackText)
	want(t, "Parse", e, api.OK)
	clear(before.Pull)
	again, _, e := barrier.Parse(trackText)
	wantOK(t, "Parse again", again, e, track())
}

// anyNumbers returns numbers that are hardly ever all in their ranges.
func anyNumbers(r *rand.Rand) func() int {
	numbers := append([]int{0, 1, 1, 2, 3, 5, -1, 100}, far...)
	most := between(r, 4, len(numbers))
	return func() int { return one(r, numbers[:most]) }
}

func TestNothingPanics(t *testing.T) {
	r := dice(16)
	for range 5000 {
		number := anyNumbers(r)
		span := func() api.Interval { return to(number(), number()) }
		names := append([]string{"a", "b", "c", "d"}, badNames...)
		name := func() string { return one(r, names[:between(r, 4, len(names))]) }
		var l []barrier.Gate
		x := barrier.Tow{Friction: span(), Brake: span(), Wall: number()}
		var parts []barrier.Part
		var w []barrier.Load
		var classes []barrier.Class
		var forces, ways []int
		for range r.IntN(4) {
			l = append(l, barrier.Gate{Place: number(), Time: span()})
			x.Pull = append(x.Pull, number())
			parts = append(parts, part(name(), span(), span(), span()))
			w = append(w, barrier.Load{Name: name(), At: api.Point{X: number(), Y: number()}, Scale: number(), Error: number(), Samples: slices.Repeat([]int{number()}, r.IntN(3))})
			classes = append(classes, class(name(), span(), span()))
			forces, ways = append(forces, number()), append(ways, number())
		}
		if e := barrier.CheckGates(l); e != api.OK {
			speed, got := barrier.Speed(l)
			wantError(t, "Speed", speed, got, e)
		}
		barrier.Overlap(api.Span{From: number(), To: number()}, api.Span{From: number(), To: number()})
		barrier.Classes(classes, span(), ratio(number(), number()))
		if e := barrier.CheckTow(x); e != api.OK {
			wantTowErrors(t, x, e)
		}
		barrier.Run(x, number())
		barrier.Braked(x, number(), number(), number())
		barrier.Safe(x, number())
		barrier.CheckTable(x, ways, number())
		if e := barrier.CheckParts(parts); e != api.OK {
			change, got := barrier.Change(parts)
			wantError(t, "Change", change, got, e)
		}
		if e := barrier.CheckWall(w); e != api.OK {
			impulse, got := barrier.Impulse(w)
			wantError(t, "Impulse", impulse, got, e)
		}
		barrier.Peak(w)
		barrier.Centre(w, number())
		barrier.Explaining(parts, w)
		barrier.Crush(forces, ways)
	}
}
