package restraint_test

import (
	"fmt"
	"math"
	"math/rand/v2"
	"slices"
	"strings"
	"testing"

	"crumple/api"
	"crumple/restraint"
)

// longest is a name that could not be longer.
var longest = strings.Repeat("x", api.MaxName)

// badNames are none.
var badNames = []string{"", "9a", "_a", "a b", "a-b", "-", "h\u00e9ad", "a\n", "\xff", longest + "x"}

// far are numbers that are out of all ranges.
var far = []int{math.MinInt, math.MinInt + 1, -2000000000, 2000000000, math.MaxInt}

// printed returns a result as text: nil and empty lists are alike.
func printed(x any) string { return fmt.Sprintf("%+v", x) }

// want compares two results as they are printed.
func want[T any](t *testing.T, what string, got, wanted T) {
	t.Helper()
	if a, b := printed(got), printed(wanted); a != b {
		t.Errorf("%.999s: got %s, want %s", what, a, b)
	}
}

// wantError checks an error, and that a result beside one is its zero value.
func wantError[T any](t *testing.T, what string, got T, e, wanted api.Errno) {
	t.Helper()
	want(t, what+", the error", e, wanted)
	if wanted != api.OK {
		want(t, what+", beside the error", got, *new(T))
	}
}

// wantOK checks a result without an error.
func wantOK[T any](t *testing.T, what string, got T, e api.Errno, wanted T) {
	t.Helper()
	want(t, what+", the error", e, api.OK)
	want(t, what, got, wanted)
}

// dice are the same on each run.
func dice(seed uint64) *rand.Rand { return rand.New(rand.NewPCG(seed, 7)) }

// between returns a number from low to high.
func between(r *rand.Rand, low, high int) int { return low + r.IntN(high-low+1) }

// one returns an element of a list.
func one[A any](r *rand.Rand, l []A) A { return l[r.IntN(len(l))] }

// pair is two results of one call.
type pair[A, B any] struct {
	first  A
	second B
}

// fit is a set with its misfit, as Best returns both.
type fit = pair[restraint.Set, int]

// grid is the lists of values of the three parameters.
type grid = [3][]int

// wrong is an argument with its first error; most have later errors, too.
type wrong[T any] struct {
	x T
	e api.Errno
}

func to(low, high int) api.Interval { return api.Interval{Low: low, High: high} }

// intervals returns the intervals of a case by their ends.
func intervals(a, b, c, d, e, f int) [3]api.Interval {
	return [3]api.Interval{to(a, b), to(c, d), to(e, f)}
}

// spring returns a spring by X and Y of its points.
func spring(numbers ...int) restraint.Spring {
	var s restraint.Spring
	for p := range slices.Chunk(numbers, 2) {
		s = append(s, api.Point{X: p[0], Y: p[1]})
	}
	return s
}

func set(slack, limit, delay int) restraint.Set {
	return restraint.Set{Slack: slack, Limit: limit, Delay: delay}
}

// car returns the model M of the chapter's examples.
func car() restraint.Model {
	return restraint.Model{Car: 10, Occupant: 2, Front: spring(0, 0, 10, 100), Belt: spring(0, 0, 5, 20), Bag: spring(0, 0, 10, 40), Gap: 4, Steps: 3}
}

// steps returns a model with another number of steps.
func steps(m restraint.Model, n int) restraint.Model {
	m.Steps = n
	return m
}

// four returns the grid of the chapter's example 5.
func four() grid { return grid{{0, 1}, {10}, {2, 3}} }

// late returns the case of the chapter's example 5; only the sets with the delay 2 explain it.
func late() restraint.Case {
	return restraint.Case{Name: "late", Speed: 10, Answers: intervals(10, 10, 20, 30, 25, 25)}
}

// later returns the second case of the chapter's example 6; only the sets with the delay 3 explain it.
func later() restraint.Case {
	return restraint.Case{Name: "later", Speed: 10, Answers: intervals(10, 10, 20, 30, 5, 5)}
}

// anything returns a case that each set explains.
func anything(name string, speed int) restraint.Case {
	const most = restraint.MaxAnswer
	return restraint.Case{Name: name, Speed: speed, Answers: intervals(-most, most, -most, most, -most, most)}
}

// many returns cases with different names.
func many(n int) []restraint.Case {
	var l []restraint.Case
	for i := range n {
		l = append(l, anything(fmt.Sprintf("c%d", i), i+1))
	}
	return l
}

// outside has numbers that are not from low to high.
func outside(low, high int) []int { return append([]int{low - 1, high + 1}, far...) }

// badIntervals has intervals in the order of their errors.
func badIntervals() []wrong[api.Interval] {
	const most = restraint.MaxAnswer
	l := []wrong[api.Interval]{
		{to(-most-1, most), api.ErrRange}, {to(most+1, most), api.ErrRange}, {to(most+1, -most), api.ErrRange},
		{to(-most, most+1), api.ErrRange}, {to(-most, -most-1), api.ErrRange}, {to(most, -most-1), api.ErrRange},
		{to(most, -most), api.ErrOrder}, {to(1, 0), api.ErrOrder},
	}
	for _, n := range far {
		l = append(l, wrong[api.Interval]{to(n, 0), api.ErrRange}, wrong[api.Interval]{to(0, n), api.ErrRange}, wrong[api.Interval]{to(n, n), api.ErrRange})
	}
	return l
}

// badSprings has springs in the order of their errors.
func badSprings() []wrong[restraint.Spring] {
	long := make(restraint.Spring, restraint.MaxPoints+1)
	for i := range long {
		long[i].X = i
	}
	l := []wrong[restraint.Spring]{
		{nil, api.ErrShort}, {restraint.Spring{}, api.ErrShort}, {spring(0, 0), api.ErrShort}, {spring(1, 0), api.ErrShort}, {spring(far[0], 0), api.ErrShort},
		{long, api.ErrMany}, {make(restraint.Spring, restraint.MaxPoints+1), api.ErrMany}, {slices.Repeat(spring(far[0], 0), restraint.MaxPoints+1), api.ErrMany}, {make(restraint.Spring, 5000), api.ErrMany},
		{spring(1, 0, 2, 0), api.ErrOrder}, {spring(1, 0, far[0], 0), api.ErrOrder}, {spring(restraint.MaxWay, 0, 0, far[0]), api.ErrOrder}, {spring(1, -1, 2, 0), api.ErrRange},
		{spring(0, 0, 0, 5), api.ErrOrder}, {spring(0, 0, 0, -1), api.ErrRange}, {spring(0, 0, 0, 1, -1, 0), api.ErrOrder}, {spring(0, 0, 2, 0, 2, 0), api.ErrOrder}, {spring(0, 0, 2, 0, 1, 0), api.ErrOrder}, {spring(0, 0, 2, 0, 1, far[4]), api.ErrRange}, {spring(0, 0, 2, 0, 0, 0, 3, far[4]), api.ErrOrder},
		{spring(0, 0, restraint.MaxWay, 0, restraint.MaxWay, 0), api.ErrOrder}, {spring(0, 1, 1, 1, 2, 1, 3, 1, 4, 1, 5, 1, 6, 1, 6, 1), api.ErrOrder},
	}
	for _, n := range outside(0, restraint.MaxWay) {
		l = append(l, wrong[restraint.Spring]{spring(n, 0, 5, 0), api.ErrRange}, wrong[restraint.Spring]{spring(n, far[0], 0, 0), api.ErrRange}, wrong[restraint.Spring]{spring(0, 0, n, 0), api.ErrRange}, wrong[restraint.Spring]{spring(0, 0, n, 0, 0, 0), api.ErrRange}, wrong[restraint.Spring]{spring(0, 0, 1, 0, n, 0), api.ErrRange})
	}
	for _, n := range outside(0, restraint.MaxForce) {
		l = append(l, wrong[restraint.Spring]{spring(0, n, 5, 0), api.ErrRange}, wrong[restraint.Spring]{spring(1, n, 0, 0), api.ErrRange}, wrong[restraint.Spring]{spring(0, 0, 1, n), api.ErrRange}, wrong[restraint.Spring]{spring(0, 0, 0, n), api.ErrRange}, wrong[restraint.Spring]{spring(0, 0, 3, 0, 2, n, 1, 0), api.ErrRange})
	}
	return l
}

// badModels has models in the order of their errors: each has those of a later part, too, and then these alone.
func badModels() []wrong[restraint.Model] {
	var l []wrong[restraint.Model]
	add := func(e api.Errno, change func(m *restraint.Model)) {
		m := car()
		change(&m)
		l = append(l, wrong[restraint.Model]{m, e})
	}
	for _, n := range outside(1, restraint.MaxMass) {
		add(api.ErrRange, func(m *restraint.Model) { *m = restraint.Model{Car: n} })
		add(api.ErrRange, func(m *restraint.Model) { *m = restraint.Model{Car: 1, Occupant: n} })
		add(api.ErrRange, func(m *restraint.Model) { m.Car = n })
		add(api.ErrRange, func(m *restraint.Model) { m.Occupant = n })
	}
	turned := spring(0, 0, 0, 0)
	for _, b := range badSprings() {
		add(b.e, func(m *restraint.Model) { m.Front, m.Belt, m.Bag, m.Gap, m.Steps = b.x, turned, nil, -1, 0 })
		add(b.e, func(m *restraint.Model) { m.Front = b.x })
		add(b.e, func(m *restraint.Model) { m.Belt, m.Bag, m.Gap, m.Steps = b.x, turned, -1, 0 })
		add(b.e, func(m *restraint.Model) { m.Belt = b.x })
		add(b.e, func(m *restraint.Model) { m.Bag, m.Gap, m.Steps = b.x, -1, 0 })
		add(b.e, func(m *restraint.Model) { m.Bag = b.x })
	}
	add(api.ErrShort, func(m *restraint.Model) { m.Front, m.Belt, m.Bag = nil, turned, turned })
	add(api.ErrOrder, func(m *restraint.Model) { m.Front, m.Belt, m.Bag = turned, nil, nil })
	add(api.ErrShort, func(m *restraint.Model) { m.Belt, m.Bag = nil, turned })
	for _, n := range outside(0, restraint.MaxWay) {
		add(api.ErrRange, func(m *restraint.Model) { m.Gap = n })
	}
	for _, n := range outside(1, restraint.MaxSteps) {
		add(api.ErrRange, func(m *restraint.Model) { m.Steps = n })
	}
	return l
}

// badSets has sets of which one value is not in its range.
func badSets() []restraint.Set {
	var l []restraint.Set
	for _, n := range outside(0, restraint.MaxWay) {
		l = append(l, set(n, 0, 0), set(n, -1, -1))
	}
	for _, n := range outside(0, restraint.MaxForce) {
		l = append(l, set(0, n, 0), set(5, n, -1))
	}
	for _, n := range outside(0, restraint.MaxSteps) {
		l = append(l, set(0, 0, n), set(restraint.MaxWay, restraint.MaxForce, n))
	}
	return l
}

// upTo returns the numbers from 0 on, before n.
func upTo(n int) []int {
	var l []int
	for i := range n {
		l = append(l, i)
	}
	return l
}

// badValues has values of a parameter in the order of their errors.
func badValues(most int) []wrong[[]int] {
	l := []wrong[[]int]{
		{nil, api.ErrEmpty}, {[]int{}, api.ErrEmpty}, {upTo(restraint.MaxGrid + 1), api.ErrMany}, {make([]int, restraint.MaxGrid+1), api.ErrMany}, {slices.Repeat(far, 1000), api.ErrMany},
		{[]int{0, 0}, api.ErrOrder}, {[]int{5, 4}, api.ErrOrder}, {[]int{5, 0}, api.ErrOrder}, {[]int{5, 5, -1}, api.ErrOrder}, {[]int{0, 5, 7, 6, far[4]}, api.ErrOrder}, {[]int{1, 2, 3, 4, 5, 6, 7, 7}, api.ErrOrder}, {[]int{most, most}, api.ErrOrder}, {[]int{1, 3, 2}, api.ErrOrder},
	}
	for _, n := range outside(0, most) {
		l = append(l, wrong[[]int]{[]int{n}, api.ErrRange}, wrong[[]int]{[]int{n, 0, 0}, api.ErrRange}, wrong[[]int]{[]int{5, n, 4}, api.ErrRange}, wrong[[]int]{append(upTo(restraint.MaxGrid-1), n), api.ErrRange})
	}
	return l
}

// badGrids has grids in the order of their errors.
func badGrids() []wrong[grid] {
	var l []wrong[grid]
	turned := []int{3, 2}
	for _, b := range badValues(restraint.MaxWay) {
		l = append(l, wrong[grid]{grid{b.x, {1}, {1}}, b.e}, wrong[grid]{grid{b.x, turned, nil}, b.e}, wrong[grid]{grid{b.x, nil, turned}, b.e})
	}
	for _, b := range badValues(restraint.MaxForce) {
		l = append(l, wrong[grid]{grid{{1}, b.x, {1}}, b.e}, wrong[grid]{grid{{1}, b.x, nil}, b.e}, wrong[grid]{grid{{1}, b.x, turned}, b.e})
	}
	for _, b := range badValues(restraint.MaxSteps) {
		l = append(l, wrong[grid]{grid{{1}, {1}, b.x}, b.e})
	}
	return l
}

// badCases has cases in the order of their errors.
func badCases() []wrong[restraint.Case] {
	var l []wrong[restraint.Case]
	turned := to(1, 0)
	for _, name := range badNames {
		l = append(l, wrong[restraint.Case]{restraint.Case{Name: name}, api.ErrName}, wrong[restraint.Case]{restraint.Case{Name: name, Speed: 1, Answers: [3]api.Interval{turned}}, api.ErrName}, wrong[restraint.Case]{anything(name, 5), api.ErrName})
	}
	for _, n := range outside(1, restraint.MaxSpeed) {
		l = append(l, wrong[restraint.Case]{restraint.Case{Name: "b", Speed: n, Answers: [3]api.Interval{turned}}, api.ErrRange}, wrong[restraint.Case]{anything("b", n), api.ErrRange})
	}
	for _, b := range badIntervals() {
		for i := range 3 {
			c := anything("b", 5)
			c.Answers[i] = b.x
			l = append(l, wrong[restraint.Case]{c, b.e})
			// Those that follow have another error.
			for j := i + 1; j < 3; j++ {
				c.Answers[j] = turned
				if b.e == api.ErrOrder {
					c.Answers[j] = to(far[0], 0)
				}
			}
			l = append(l, wrong[restraint.Case]{c, b.e})
		}
	}
	return l
}

// badCaseLists has cases in the order of their errors.
func badCaseLists() []wrong[[]restraint.Case] {
	l := []wrong[[]restraint.Case]{
		{nil, api.ErrEmpty}, {[]restraint.Case{}, api.ErrEmpty}, {many(restraint.MaxCases + 1), api.ErrMany}, {make([]restraint.Case, restraint.MaxCases+1), api.ErrMany}, {slices.Repeat([]restraint.Case{late()}, 5000), api.ErrMany},
		{[]restraint.Case{late(), late()}, api.ErrTwice}, {[]restraint.Case{late(), later(), anything("late", 9), {}}, api.ErrTwice}, {[]restraint.Case{late(), anything("late", 0)}, api.ErrRange}, {append(many(restraint.MaxCases-1), anything("c0", 9)), api.ErrTwice}, {append(many(restraint.MaxCases-1), anything("c6", 9)), api.ErrTwice},
	}
	for _, b := range badCases() {
		l = append(l, wrong[[]restraint.Case]{[]restraint.Case{b.x}, b.e}, wrong[[]restraint.Case]{[]restraint.Case{late(), b.x, {}}, b.e}, wrong[[]restraint.Case]{[]restraint.Case{b.x, late(), late()}, b.e}, wrong[[]restraint.Case]{append(many(restraint.MaxCases-1), b.x), b.e})
	}
	return l
}

// someSpring returns a spring, rising or not, with forces up to most.
func someSpring(r *rand.Rand, most int) restraint.Spring {
	s := spring(0, one(r, []int{0, 0, between(r, 0, most)}))
	width := one(r, []int{1, 3, 12})
	for range between(r, 1, restraint.MaxPoints-1) {
		s = append(s, api.Point{X: s[len(s)-1].X + between(r, 1, width), Y: between(r, 0, most)})
	}
	return s
}

// someModel returns a model whose occupant often meets both the belt and the bag.
func someModel(r *rand.Rand) restraint.Model {
	m := restraint.Model{Car: between(r, 1, 6), Occupant: between(r, 1, 5), Front: someSpring(r, 40), Belt: someSpring(r, 30), Bag: someSpring(r, 30), Gap: between(r, 0, 12), Steps: between(r, 1, 12)}
	if r.IntN(20) == 0 {
		m = restraint.Model{Car: one(r, []int{1, restraint.MaxMass}), Occupant: one(r, []int{1, restraint.MaxMass}), Front: someSpring(r, restraint.MaxForce), Belt: someSpring(r, restraint.MaxForce), Bag: someSpring(r, restraint.MaxForce), Gap: one(r, []int{0, restraint.MaxWay}), Steps: restraint.MaxSteps}
	}
	return m
}

// someSet returns a set that often has an effect.
func someSet(r *rand.Rand) restraint.Set {
	return set(between(r, 0, 8), between(r, 0, 30), between(r, 0, 8))
}

// someSpeed returns a speed.
func someSpeed(r *rand.Rand) int {
	return between(r, 1, one(r, []int{5, 20, 20, 20, restraint.MaxSpeed}))
}

// someValues returns ascending values.
func someValues(r *rand.Rand, most int) []int {
	var l []int
	for range between(r, 1, 3) {
		l = append(l, between(r, 0, most))
	}
	slices.Sort(l)
	return slices.Compact(l)
}

// someGrid returns a grid of sets that often have different answers.
func someGrid(r *rand.Rand) grid {
	return grid{someValues(r, 8), someValues(r, 30), someValues(r, 8)}
}

// allSets returns the sets of a grid, by their places.
func allSets(g grid) []restraint.Set {
	var l []restraint.Set
	for i := range len(g[0]) * len(g[1]) * len(g[2]) {
		l = append(l, set(g[0][i/len(g[2])/len(g[1])], g[1][i/len(g[2])%len(g[1])], g[2][i%len(g[2])]))
	}
	return l
}

// made returns the case that a set makes, with intervals around its answers.
func made(r *rand.Rand, name string, m restraint.Model, p restraint.Set, speed, width int) restraint.Case {
	c := restraint.Case{Name: name, Speed: speed}
	for i, x := range slowAnswers(m, p, speed) {
		// An answer may be too far for a case.
		x = min(x, restraint.MaxAnswer)
		c.Answers[i] = to(max(-restraint.MaxAnswer, x-r.IntN(width+1)), min(restraint.MaxAnswer, x+r.IntN(width+1)))
	}
	return c
}

// someCases returns cases, most of which are made by some sets of a grid, or by others.
func someCases(r *rand.Rand, m restraint.Model, g grid) []restraint.Case {
	all := allSets(g)
	makers := []restraint.Set{one(r, all), one(r, all), someSet(r)}
	makers = makers[:between(r, 1, len(makers))]
	var l []restraint.Case
	for i := range between(r, 1, 4) {
		l = append(l, made(r, fmt.Sprintf("c%d", i), m, one(r, makers), someSpeed(r), one(r, []int{0, 0, 3, 20})))
	}
	return l
}
