package dummy_test

import (
	"fmt"
	"slices"
	"testing"

	"crumple/api"
	"crumple/dummy"
)

// P3.3 (before a test): each function with ordinary inputs, at its limits, and with its errors in their order.

func box(x, y, z api.Interval) dummy.Box { return dummy.Box{X: x, Y: y, Z: z} }

// fives returns n boxes from 0 to 5.
func fives(n int) []dummy.Box {
	return slices.Repeat([]dummy.Box{box(to(0, 5), to(0, 5), to(0, 5))}, n)
}

func TestOut(t *testing.T) {
	most := to(-dummy.MaxPlace, dummy.MaxPlace)
	for _, x := range []struct {
		seat   []dummy.Box
		points []api.Vector
		out    []int
	}{
		{fives(2), []api.Vector{at(3, 6, 0), at(5, 0, 5)}, []int{0}},
		{fives(3), []api.Vector{at(0, 0, 0), at(5, 5, 5), at(2, 3, 4)}, nil},
		{fives(6), []api.Vector{at(-1, 0, 0), at(0, -1, 0), at(0, 0, -1), at(6, 5, 5), at(5, 6, 5), at(5, 5, 6)}, []int{0, 1, 2, 3, 4, 5}},
		{fives(5), []api.Vector{at(0, 0, 0), at(-1, 6, 9), at(1, 1, 1), at(1, 1, 1), at(dummy.MaxPlace, -dummy.MaxPlace, 0)}, []int{1, 4}},
		// Each point has a box of its own, and each of its parts an interval of its own.
		{[]dummy.Box{box(to(1, 1), to(2, 2), to(3, 3)), box(to(3, 3), to(2, 2), to(1, 1))}, []api.Vector{at(1, 2, 3), at(1, 2, 3)}, []int{1}},
		{[]dummy.Box{box(most, most, most), box(most, most, most)}, []api.Vector{at(dummy.MaxPlace, -dummy.MaxPlace, 0), at(-dummy.MaxPlace, dummy.MaxPlace, -dummy.MaxPlace)}, nil},
		{fives(dummy.MaxPoints), slices.Repeat([]api.Vector{at(1, 1, 6)}, dummy.MaxPoints), []int{0, 1, 2, 3, 4, 5, 6, 7, 8, 9, 10, 11, 12, 13, 14, 15}},
	} {
		out, e := dummy.Out(x.seat, x.points)
		wantOK(t, fmt.Sprintf("Out of %v", x.points), out, e, x.out)
	}
}

func TestOutErrors(t *testing.T) {
	good, turned := to(0, 5), to(1, 0)
	beyond := dummy.MaxPlace + 1
	bad := []wrong[[]dummy.Box]{
		{nil, api.ErrEmpty},
		{slices.Repeat([]dummy.Box{box(turned, turned, turned)}, dummy.MaxPoints+1), api.ErrMany}, {fives(dummy.MaxPoints + 1), api.ErrMany},
	}
	for _, b := range []wrong[dummy.Box]{
		{box(to(-beyond, -beyond-1), turned, turned), api.ErrRange}, {box(to(beyond, 0), good, good), api.ErrRange}, {box(to(0, beyond), turned, good), api.ErrRange}, {box(to(0, -beyond), good, good), api.ErrRange},
		{box(turned, to(beyond, 0), to(beyond, 0)), api.ErrOrder}, {box(good, to(0, beyond), turned), api.ErrRange}, {box(good, to(-beyond, 0), turned), api.ErrRange},
		{box(good, turned, to(beyond, 0)), api.ErrOrder}, {box(good, good, to(beyond, 0)), api.ErrRange}, {box(good, good, to(0, -beyond)), api.ErrRange}, {box(good, good, turned), api.ErrOrder},
	} {
		bad = append(bad, wrong[[]dummy.Box]{append(fives(1), b.x, box(to(beyond, 0), turned, turned)), b.e})
	}
	for _, b := range bad {
		out, e := dummy.Out(b.x, []api.Vector{at(beyond, 0, 0)})
		wantError(t, fmt.Sprintf("Out of the seat %v", b.x), out, e, b.e)
	}
	for _, b := range []wrong[[]api.Vector]{
		{nil, api.ErrShape}, {[]api.Vector{at(beyond, 0, 0)}, api.ErrShape}, {slices.Repeat([]api.Vector{at(0, 0, beyond)}, 3), api.ErrShape},
		{[]api.Vector{at(0, 0, 0), at(beyond, 0, 0)}, api.ErrRange}, {[]api.Vector{at(0, -beyond, 0), at(0, 0, 0)}, api.ErrRange}, {[]api.Vector{at(0, 0, beyond), at(9, 9, 9)}, api.ErrRange}, {[]api.Vector{at(9, 9, 9), at(-beyond, 0, 0)}, api.ErrRange},
	} {
		out, e := dummy.Out(fives(2), b.x)
		wantError(t, fmt.Sprintf("Out of the points %v", b.x), out, e, b.e)
	}
}

// steps returns steps by their names; one that ends with 2 needs two persons.
func steps(s string) []dummy.Step {
	var l []dummy.Step
	for _, name := range words(s) {
		l = append(l, dummy.Step{Name: name, Two: name[len(name)-1] == '2'})
	}
	return l
}

// signs returns signs by the names of their steps and persons.
func signs(s string) []dummy.Sign {
	var l []dummy.Sign
	for pair := range slices.Chunk(words(s), 2) {
		l = append(l, dummy.Sign{Step: pair[0], Person: pair[1]})
	}
	return l
}

func TestOpen(t *testing.T) {
	for _, x := range []struct{ steps, signs, open string }{
		{"fuel arm2", "", "fuel arm2"}, {"fuel arm2", "fuel ann", "arm2"}, {"fuel arm2", "fuel ann arm2 ann", "arm2"}, {"fuel arm2", "fuel ann arm2 ann arm2 bob", ""},
		{"fuel arm2", "fuel bob arm2 bob arm2 ann", ""}, {"a2 b2 c", "a2 x", "a2 b2 c"}, {"a2 b2 c", "a2 x a2 y", "b2 c"},
		// Who has signed a step may sign the next one.
		{"a2 b2 c", "a2 x a2 y b2 y b2 x c y", ""}, {"a2 b2 c", "a2 x a2 y b2 y b2 x", "c"}, {"a b c", "a x b x c x", ""},
		// Names of persons and steps do not mix, and are compared by the letter.
		{"x", "x x", ""}, {"a2", "a2 x a2 X", ""}, {"a A", "a x", "A"},
	} {
		open, e := dummy.Open(steps(x.steps), signs(x.signs))
		wantOK(t, fmt.Sprintf("Open of %v", x), open, e, words(x.open))
	}
	var all, signed string
	for i := range dummy.MaxSteps {
		all += fmt.Sprintf("s%d_2 ", i)
		signed += fmt.Sprintf("s%d_2 ann s%d_2 bob ", i, i)
	}
	open, e := dummy.Open(steps(all), signs(signed))
	wantOK(t, "Open of 32 steps with 64 signs", open, e, nil)
	open, e = dummy.Open(steps(all), nil)
	wantOK(t, "Open of 32 steps", open, e, words(all))
}

func TestOpenErrors(t *testing.T) {
	bad := []wrong[[]dummy.Step]{
		{nil, api.ErrEmpty}, {make([]dummy.Step, dummy.MaxSteps+1), api.ErrMany},
		{steps("a b a 9"), api.ErrTwice}, {steps("a 9 a"), api.ErrName}, {[]dummy.Step{{Name: "a"}, {Name: "a", Two: true}}, api.ErrTwice},
	}
	for _, name := range badNames {
		bad = append(bad, wrong[[]dummy.Step]{[]dummy.Step{{Name: "a"}, {Name: name}, {Name: "a"}}, api.ErrName})
	}
	for _, b := range bad {
		open, e := dummy.Open(b.x, signs("none 9"))
		wantError(t, fmt.Sprintf("Open of the steps %v", b.x), open, e, b.e)
	}
	for _, b := range []struct {
		signs string
		e     api.Errno
	}{
		{"none 9", api.ErrUnknown}, {"Fuel ann", api.ErrUnknown}, {"fuel ann none ann", api.ErrUnknown},
		{"fuel 9", api.ErrName}, {"arm2 9", api.ErrName}, {"fuel ann fuel 9", api.ErrName}, {"fuel ann arm2 ann arm2 _", api.ErrName},
		{"fuel ann fuel ann", api.ErrOver}, {"fuel ann fuel bob", api.ErrOver}, {"fuel ann arm2 ann fuel bob", api.ErrOver}, {"fuel ann arm2 ann arm2 bob arm2 cid", api.ErrOver}, {"fuel ann arm2 ann arm2 bob go x go x", api.ErrOver},
		{"arm2 ann", api.ErrOrder}, {"go ann", api.ErrOrder}, {"fuel ann go ann", api.ErrOrder}, {"fuel ann arm2 ann go ann", api.ErrOrder}, {"fuel ann go ann none 9", api.ErrOrder},
		{"fuel ann arm2 ann arm2 ann", api.ErrTwice}, {"fuel ann arm2 ann arm2 ann none 9", api.ErrTwice},
	} {
		open, e := dummy.Open(steps("fuel arm2 go"), signs(b.signs))
		wantError(t, "Open of the signs "+b.signs, open, e, b.e)
	}
	open, e := dummy.Open(steps("fuel"), make([]dummy.Sign, dummy.MaxSigns+1))
	wantError(t, "Open of 65 signs", open, e, api.ErrMany)
	open, e = dummy.Open(steps("fuel"), make([]dummy.Sign, dummy.MaxSigns))
	wantError(t, "Open of 64 signs without a step", open, e, api.ErrUnknown)
	open, e = dummy.Open(steps("fuel"), []dummy.Sign{{Step: "fuel"}})
	wantError(t, "Open of a sign without a person", open, e, api.ErrName)
}
