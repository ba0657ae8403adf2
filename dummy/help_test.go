package dummy_test

import (
	"fmt"
	"math"
	"math/rand/v2"
	"slices"
	"strings"
	"testing"

	"crumple/api"
	"crumple/dummy"
)

// longest is a name that could not be longer.
var longest = strings.Repeat("x", api.MaxName)

// badNames are none.
var badNames = []string{"", "9a", "_a", "a b", "a-b", "-", "h\u00e9ad", "a\n", "\xff", longest + "x"}

// far are numbers that are out of all ranges.
var far = []int{math.MinInt, math.MinInt + 1, -2000000, 2000000, math.MaxInt}

// printed returns a result as text: nil and empty lists are alike.
func printed(x any) string {
	if l, ok := x.([]string); ok {
		// The quotes tell a list of one empty string from an empty list.
		return fmt.Sprintf("%q", l)
	}
	return fmt.Sprintf("%+v", x)
}

// want compares two results as they are printed.
func want[T any](t *testing.T, what string, got, wanted T) {
	t.Helper()
	if a, b := printed(got), printed(wanted); a != b {
		t.Errorf("%s: got %s, want %s", what, a, b)
	}
}

// wantError checks an error, and that a result beside one is its zero value.
func wantError[T any](t *testing.T, what string, got T, e, wanted api.Errno) {
	t.Helper()
	want(t, what+", the error", e, wanted)
	if wanted != api.OK {
		want(t, what+", beside the error", got, *new(T))
	}
}

// wantOK checks a result without an error.
func wantOK[T any](t *testing.T, what string, got T, e api.Errno, wanted T) {
	t.Helper()
	want(t, what+", the error", e, api.OK)
	want(t, what, got, wanted)
}

// dice are the same on each run.
func dice(seed uint64) *rand.Rand {
	return rand.New(rand.NewPCG(seed, 3))
}

// between returns a number from low to high.
func between(r *rand.Rand, low, high int) int {
	return low + r.IntN(high-low+1)
}

// one returns an element of a list.
func one[A any](r *rand.Rand, l []A) A {
	return l[r.IntN(len(l))]
}

// words returns the words of a text.
func words(s string) []string { return strings.Fields(s) }

func to(low, high int) api.Interval { return api.Interval{Low: low, High: high} }

func at(x, y, z int) api.Vector { return api.Vector{X: x, Y: y, Z: z} }

func part(name, parent string, mass int, joint api.Vector, corridor ...api.Interval) dummy.Part {
	return dummy.Part{Name: name, Parent: parent, Mass: mass, Joint: joint, Corridor: corridor}
}

func calibration(name, part, specimen string, day int, values ...int) dummy.Calibration {
	return dummy.Calibration{Name: name, Part: part, Specimen: specimen, Day: day, Values: values}
}

func test(name string, day int, parts string) dummy.Test {
	return dummy.Test{Name: name, Day: day, Parts: words(parts)}
}

// figure returns the parts D of the chapter's examples.
func figure() []dummy.Part {
	return []dummy.Part{
		part("pelvis", "", 20, at(0, 0, 0), to(0, 10)),
		part("chest", "pelvis", 15, at(0, 0, 40), to(50, 60), to(5, 5)),
		part("head", "chest", 5, at(2, 0, 30), to(100, 120)),
	}
}

// example returns the laboratory L of the chapter's examples.
func example() dummy.Lab {
	return dummy.Lab{
		Parts:    figure(),
		Fittings: []dummy.Fitting{{Day: 1, Part: "head", Specimen: "h1"}, {Day: 1, Part: "chest", Specimen: "c1"}, {Day: 20, Part: "head", Specimen: "h2"}},
		Calibrations: []dummy.Calibration{
			calibration("k1", "head", "h1", 2, 110), calibration("k2", "chest", "c1", 2, 55, 5),
			calibration("k3", "head", "h1", 15, 90), calibration("k4", "head", "h2", 20, 120),
		},
		Tests: []dummy.Test{
			test("t1", 3, "head chest"), test("t2", 5, "head"), test("t3", 6, "head"),
			test("t4", 20, "head"), test("t5", 21, "chest"), test("t6", 22, "pelvis"),
		},
		Rule: dummy.Rule{Days: 10, Uses: 2},
	}
}

// row returns n parts, each of the one before it.
func row(n int) []dummy.Part {
	var l []dummy.Part
	parent := ""
	for i := range n {
		name := fmt.Sprintf("p%d", i)
		l = append(l, part(name, parent, i+1, at(1, -i, i*i), to(-i, i)))
		parent = name
	}
	return l
}

// full returns a laboratory with as much of everything as is permitted, and the greatest numbers.
func full() dummy.Lab {
	x := dummy.Lab{Rule: dummy.Rule{Days: dummy.MaxDays, Uses: dummy.MaxUses}}
	var all []string
	for _, p := range row(dummy.MaxParts) {
		p.Mass = dummy.MaxMass
		p.Joint = at(-dummy.MaxPlace, dummy.MaxPlace, dummy.MaxPlace)
		p.Corridor = slices.Repeat([]api.Interval{to(-dummy.MaxValue, dummy.MaxValue)}, dummy.MaxValues)
		x.Parts = append(x.Parts, p)
		all = append(all, p.Name)
	}
	values := slices.Repeat([]int{-dummy.MaxValue, dummy.MaxValue}, dummy.MaxValues/2)
	for i := range 64 {
		p := all[i%len(all)]
		x.Fittings = append(x.Fittings, dummy.Fitting{Day: 1, Part: p, Specimen: longest})
		x.Calibrations = append(x.Calibrations, calibration(fmt.Sprintf("k%d", i), p, longest, api.MaxDay, values...))
		x.Tests = append(x.Tests, dummy.Test{Name: fmt.Sprintf("t%d", i), Day: api.MaxDay, Parts: all})
	}
	return x
}

// wrong is an argument with its first error; most have later errors, too.
type wrong[T any] struct {
	x T
	e api.Errno
}

// badParts has parts in the order of their errors.
func badParts() []wrong[[]dummy.Part] {
	zero, good := at(0, 0, 0), to(0, 1)
	root := part("root", "", 1, zero, good)
	bad := []wrong[dummy.Part]{
		{part("root", "none", 0, zero), api.ErrTwice}, {part("root", "root", 1, zero, good), api.ErrTwice},
		{part("a", "", 0, zero), api.ErrUnknown}, {part("a", "a", 0, zero), api.ErrUnknown}, {part("a", "Root", 0, zero), api.ErrUnknown}, {part("a", "last", 0, zero), api.ErrUnknown}, {part("a", "-", 0, zero), api.ErrUnknown},
		{part("a", "root", 0, zero), api.ErrRange}, {part("a", "root", -1, zero), api.ErrRange}, {part("a", "root", dummy.MaxMass+1, zero), api.ErrRange},
		{part("a", "root", 1, at(dummy.MaxPlace+1, 0, 0)), api.ErrRange}, {part("a", "root", 1, at(0, -dummy.MaxPlace-1, 0)), api.ErrRange}, {part("a", "root", 1, at(0, 0, dummy.MaxPlace+1)), api.ErrRange},
		{part("a", "root", 1, zero), api.ErrEmpty},
		{part("a", "root", 1, zero, slices.Repeat([]api.Interval{to(1, 0)}, dummy.MaxValues+1)...), api.ErrMany},
		{part("a", "root", 1, zero, good, to(-dummy.MaxValue-1, -dummy.MaxValue-2), to(1, 0)), api.ErrRange}, {part("a", "root", 1, zero, to(0, dummy.MaxValue+1), to(1, 0)), api.ErrRange}, {part("a", "root", 1, zero, to(0, -dummy.MaxValue-1)), api.ErrRange},
		{part("a", "root", 1, zero, good, to(1, 0), to(0, dummy.MaxValue+1)), api.ErrOrder},
	}
	for _, n := range far {
		bad = append(bad, wrong[dummy.Part]{part("a", "root", n, zero, good), api.ErrRange}, wrong[dummy.Part]{part("a", "root", 1, at(0, n, 0), good), api.ErrRange}, wrong[dummy.Part]{part("a", "root", 1, zero, to(n, 0)), api.ErrRange})
	}
	for _, name := range badNames {
		bad = append(bad, wrong[dummy.Part]{part(name, "none", 0, zero), api.ErrName})
	}
	l := []wrong[[]dummy.Part]{
		{nil, api.ErrEmpty}, {[]dummy.Part{}, api.ErrEmpty},
		{make([]dummy.Part, dummy.MaxParts+1), api.ErrMany}, {row(dummy.MaxParts + 1), api.ErrMany},
		{[]dummy.Part{part("", "x", 0, zero)}, api.ErrName}, {[]dummy.Part{part("a", "a", 0, zero)}, api.ErrConflict}, {[]dummy.Part{part("a", "-", 0, zero)}, api.ErrConflict},
		{[]dummy.Part{part("a", "", 0, zero)}, api.ErrRange}, {[]dummy.Part{part("a", "", 1, zero)}, api.ErrEmpty}, {[]dummy.Part{part("a", "", 1, zero, to(1, 0))}, api.ErrOrder},
	}
	for _, b := range bad {
		l = append(l, wrong[[]dummy.Part]{[]dummy.Part{root, b.x, part("last", "none", 0, zero)}, b.e})
	}
	return l
}
