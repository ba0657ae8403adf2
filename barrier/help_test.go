package barrier_test

import (
	"fmt"
	"math"
	"math/rand/v2"
	"slices"
	"strings"
	"testing"

	"crumple/api"
	"crumple/barrier"
)

// longest is a name that could not be longer.
var longest = strings.Repeat("x", api.MaxName)

// badNames are none.
var badNames = []string{"", "9a", "_a", "a b", "a-b", "-", "h\u00e9ad", "a\n", "\xff", longest + "x"}

// far are numbers that are out of all ranges.
var far = []int{math.MinInt, math.MinInt + 1, -2000000000, 2000000000, math.MaxInt}

// printed returns a result as text: nil and empty lists are alike.
func printed(x any) string {
	if l, ok := x.([]string); ok {
		// The quotes tell a list of one empty string from an empty list.
		return fmt.Sprintf("%q", l)
	}
	return fmt.Sprintf("%+v", x)
}

// want compares two results as they are printed.
func want[T any](t *testing.T, what string, got, wanted T) {
	t.Helper()
	if a, b := printed(got), printed(wanted); a != b {
		t.Errorf("%s: got %s, want %s", what, a, b)
	}
}

// wantError checks an error, and that a result beside one is its zero value.
func wantError[T any](t *testing.T, what string, got T, e, wanted api.Errno) {
	t.Helper()
	want(t, what+", the error", e, wanted)
	if wanted != api.OK {
		want(t, what+", beside the error", got, *new(T))
	}
}

// wantOK checks a result without an error.
func wantOK[T any](t *testing.T, what string, got T, e api.Errno, wanted T) {
	t.Helper()
	want(t, what+", the error", e, api.OK)
	want(t, what, got, wanted)
}

// dice are the same on each run.
func dice(seed uint64) *rand.Rand {
	return rand.New(rand.NewPCG(seed, 4))
}

// between returns a number from low to high.
func between(r *rand.Rand, low, high int) int {
	return low + r.IntN(high-low+1)
}

// some returns an interval from low to high.
func some(r *rand.Rand, low, high int) api.Interval {
	a, b := between(r, low, high), between(r, low, high)
	return to(min(a, b), max(a, b))
}

// one returns an element of a list.
func one[A any](r *rand.Rand, l []A) A {
	return l[r.IntN(len(l))]
}

// words returns the words of a text.
func words(s string) []string { return strings.Fields(s) }

func to(low, high int) api.Interval { return api.Interval{Low: low, High: high} }

func ratio(num, den int) api.Ratio { return api.Ratio{Num: num, Den: den} }

// pair is two results of one call.
type pair[A, B any] struct {
	first  A
	second B
}

// wrong is an argument with its first error; most have later errors, too.
type wrong[T any] struct {
	x T
	e api.Errno
}

// badIntervals has intervals in the order of their errors, by the ends of their range.
func badIntervals(low, high int) []wrong[api.Interval] {
	l := []wrong[api.Interval]{
		{to(low-1, high), api.ErrRange}, {to(high+1, high), api.ErrRange}, {to(high+1, low), api.ErrRange},
		{to(low, high+1), api.ErrRange}, {to(low, low-1), api.ErrRange}, {to(high, low-1), api.ErrRange},
		{to(high, low), api.ErrOrder}, {to(low+1, low), api.ErrOrder},
	}
	for _, n := range far {
		l = append(l, wrong[api.Interval]{to(n, low), api.ErrRange}, wrong[api.Interval]{to(low, n), api.ErrRange}, wrong[api.Interval]{to(n, n), api.ErrRange})
	}
	return l
}

// outside has numbers that are not from low to high.
func outside(low, high int) []int {
	return append([]int{low - 1, high + 1}, far...)
}

// track returns the tow T of the chapter's examples.
func track() barrier.Tow {
	return barrier.Tow{Pull: []int{10, 10, 10, 0, 0, 0}, Friction: to(1, 2), Brake: to(6, 8), Wall: 6}
}

// longTrack returns a tow with as many cells as is permitted, and the greatest numbers.
func longTrack() barrier.Tow {
	return barrier.Tow{Pull: slices.Repeat([]int{barrier.MaxPull}, barrier.MaxCells), Friction: to(0, barrier.MaxPull), Brake: to(0, barrier.MaxPull), Wall: barrier.MaxCells}
}

// someTow returns a small tow, in which cars often stop near the wall.
func someTow(r *rand.Rand) barrier.Tow {
	t := barrier.Tow{Friction: some(r, 0, 4), Brake: some(r, 0, 9)}
	for range between(r, 1, 9) {
		t.Pull = append(t.Pull, between(r, 0, 12))
	}
	t.Wall = between(r, 1, len(t.Pull))
	return t
}

// badTows has tows in the order of their errors.
func badTows() []wrong[barrier.Tow] {
	turned := to(1, 0)
	l := []wrong[barrier.Tow]{
		{barrier.Tow{Friction: turned}, api.ErrEmpty}, {barrier.Tow{Pull: []int{}, Wall: 1}, api.ErrEmpty},
		{barrier.Tow{Pull: slices.Repeat([]int{-1}, barrier.MaxCells+1), Friction: turned}, api.ErrMany}, {barrier.Tow{Pull: make([]int, barrier.MaxCells+1), Wall: 1}, api.ErrMany},
	}
	for _, n := range outside(0, barrier.MaxPull) {
		l = append(l, wrong[barrier.Tow]{barrier.Tow{Pull: []int{1, n}, Friction: turned, Wall: 1}, api.ErrRange}, wrong[barrier.Tow]{barrier.Tow{Pull: []int{n, 1}, Wall: 1}, api.ErrRange})
	}
	for _, b := range badIntervals(0, barrier.MaxPull) {
		l = append(l, wrong[barrier.Tow]{barrier.Tow{Pull: []int{1, 2}, Friction: b.x, Brake: to(-1, -2)}, b.e}, wrong[barrier.Tow]{barrier.Tow{Pull: []int{1, 2}, Brake: b.x}, b.e})
		if b.e == api.ErrRange {
			l = append(l, wrong[barrier.Tow]{barrier.Tow{Pull: []int{1, 2}, Friction: b.x, Brake: turned}, api.ErrRange})
		}
	}
	for _, n := range append([]int{0, -1, 3}, far...) {
		l = append(l, wrong[barrier.Tow]{barrier.Tow{Pull: []int{1, 2}, Wall: n}, api.ErrRange})
	}
	return l
}

// crash returns the part A of the chapter's examples, alone.
func crash() []barrier.Part {
	return []barrier.Part{{Name: "car", Mass: to(1000, 1010), Before: to(10, 11), After: to(-2, -1)}}
}

// wall returns the wall W of the chapter's examples, with some samples.
func wall(samples ...int) []barrier.Load {
	return []barrier.Load{{Name: "w", Scale: 100, Error: 1, Samples: samples}}
}

// cells returns a wall of cells at the places 0, 1, and so on, without errors, by their samples.
func cells(samples ...[]int) []barrier.Load {
	var l []barrier.Load
	for i, s := range samples {
		l = append(l, barrier.Load{Name: fmt.Sprintf("c%d", i), At: api.Point{X: i, Y: i * i}, Scale: barrier.MaxForce, Samples: s})
	}
	return l
}

// badParts has parts in the order of their errors.
func badParts() []wrong[[]barrier.Part] {
	good := barrier.Part{Name: "a", Mass: to(1, 1)}
	turned := to(1, 0)
	bad := []wrong[barrier.Part]{{barrier.Part{Name: "a", Mass: turned}, api.ErrTwice}}
	for _, name := range badNames {
		bad = append(bad, wrong[barrier.Part]{barrier.Part{Name: name, Mass: turned}, api.ErrName})
	}
	for _, b := range badIntervals(1, barrier.MaxMass) {
		bad = append(bad, wrong[barrier.Part]{barrier.Part{Name: "b", Mass: b.x, Before: turned}, b.e}, wrong[barrier.Part]{barrier.Part{Name: "b", Mass: b.x, After: to(far[0], 0)}, b.e})
	}
	for _, b := range badIntervals(-barrier.MaxSpeed, barrier.MaxSpeed) {
		bad = append(bad, wrong[barrier.Part]{barrier.Part{Name: "b", Mass: to(1, 1), Before: b.x, After: turned}, b.e}, wrong[barrier.Part]{barrier.Part{Name: "b", Mass: to(1, 1), Before: b.x, After: to(far[0], 0)}, b.e}, wrong[barrier.Part]{barrier.Part{Name: "b", Mass: to(1, 1), After: b.x}, b.e})
	}
	l := []wrong[[]barrier.Part]{
		{nil, api.ErrEmpty}, {[]barrier.Part{}, api.ErrEmpty}, {make([]barrier.Part, barrier.MaxParts+1), api.ErrMany},
		{[]barrier.Part{{Mass: turned}}, api.ErrName}, {[]barrier.Part{{Name: "a"}}, api.ErrRange},
	}
	for _, b := range bad {
		l = append(l, wrong[[]barrier.Part]{[]barrier.Part{good, b.x, {}}, b.e})
	}
	return l
}

// badWalls has walls in the order of their errors.
func badWalls() []wrong[[]barrier.Load] {
	good := barrier.Load{Name: "a", Scale: 7, Samples: []int{7, -7}}
	bad := []wrong[barrier.Load]{
		{barrier.Load{Name: "a", At: api.Point{X: -1}}, api.ErrTwice},
		{barrier.Load{Name: "b", Scale: 1}, api.ErrEmpty}, {barrier.Load{Name: "b", Scale: 1, Samples: []int{}}, api.ErrEmpty},
		{barrier.Load{Name: "b", Scale: 1, Samples: slices.Repeat([]int{2}, barrier.MaxTimes+1)}, api.ErrMany},
		{barrier.Load{Name: "b", Scale: 1, Samples: []int{2}}, api.ErrShape}, {barrier.Load{Name: "b", Scale: 1, Samples: []int{0, 0, 2}}, api.ErrShape}, {barrier.Load{Name: "b", Scale: 1, Samples: slices.Repeat([]int{2}, barrier.MaxTimes)}, api.ErrShape},
	}
	for _, name := range badNames {
		bad = append(bad, wrong[barrier.Load]{barrier.Load{Name: name, At: api.Point{X: -1}}, api.ErrName})
	}
	for _, n := range outside(0, barrier.MaxPlace) {
		bad = append(bad, wrong[barrier.Load]{barrier.Load{Name: "b", At: api.Point{X: n}, Scale: 1}, api.ErrRange}, wrong[barrier.Load]{barrier.Load{Name: "b", At: api.Point{Y: n}, Scale: 1}, api.ErrRange})
	}
	for _, n := range outside(1, barrier.MaxForce) {
		bad = append(bad, wrong[barrier.Load]{barrier.Load{Name: "b", Scale: n}, api.ErrRange})
	}
	for _, n := range outside(0, barrier.MaxForce) {
		bad = append(bad, wrong[barrier.Load]{barrier.Load{Name: "b", Scale: 1, Error: n}, api.ErrRange})
	}
	for _, n := range outside(-5, 5) {
		bad = append(bad, wrong[barrier.Load]{barrier.Load{Name: "b", Scale: 5, Error: 9, Samples: []int{0, n}}, api.ErrRange}, wrong[barrier.Load]{barrier.Load{Name: "b", Scale: 5, Samples: []int{n, 0}}, api.ErrRange})
	}
	l := []wrong[[]barrier.Load]{
		{nil, api.ErrEmpty}, {[]barrier.Load{}, api.ErrEmpty}, {make([]barrier.Load, barrier.MaxLoads+1), api.ErrMany},
		{[]barrier.Load{{}}, api.ErrName}, {[]barrier.Load{{Name: "a", Scale: 1}}, api.ErrEmpty}, {[]barrier.Load{{Name: "a", Scale: 1, Samples: make([]int, barrier.MaxTimes+1)}}, api.ErrMany}, {[]barrier.Load{{Name: "a", Scale: 1, Samples: []int{2}}}, api.ErrRange},
	}
	for _, b := range bad {
		l = append(l, wrong[[]barrier.Load]{[]barrier.Load{good, b.x, {}}, b.e})
	}
	return l
}
