package dummy_test

import (
	"math/rand/v2"
	"testing"

	"crumple/api"
	"crumple/dummy"
)

// Rules that hold everywhere: arguments stay as they are, results share no memory, and no argument makes a function panic.

// spoil overwrites a result.
func spoil[A any](l []A, _ api.Errno) {
	clear(l)
}

// spoilParts overwrites parts.
func spoilParts(l []dummy.Part) {
	for _, p := range l {
		clear(p.Corridor)
	}
	clear(l)
}

// spoilLab overwrites a laboratory.
func spoilLab(x dummy.Lab) {
	for _, c := range x.Calibrations {
		clear(c.Values)
	}
	for _, u := range x.Tests {
		clear(u.Parts)
	}
	spoilParts(x.Parts)
	clear(x.Fittings)
	clear(x.Calibrations)
	clear(x.Tests)
}

func TestArgumentsStayAsTheyAre(t *testing.T) {
	x := example()
	seat, points := fives(2), []api.Vector{at(9, 9, 9), at(1, 1, 1)}
	list, signed := steps("fuel arm2"), signs("fuel ann")
	for range 2 {
		spoil(dummy.Chain(x.Parts, "head"))
		spoil(dummy.Branch(x.Parts, "pelvis"))
		dummy.Place(x.Parts, "head")
		dummy.Centre(x.Parts, "pelvis")
		dummy.Specimen(x, "head", 1)
		dummy.Good(x, "k1")
		spoil(dummy.Rests(x, "t1"))
		spoil(dummy.Wrong(x, "t1"))
		spoil(dummy.Covered(x))
		spoil(dummy.Questionable(x))
		spoil(dummy.Withdrawn(x, "k1"))
		spoil(dummy.Due(x, 30))
		for _, k := range []string{"k1", "k4"} {
			without, e := dummy.Without(x, k)
			want(t, "Without", e, api.OK)
			spoilLab(without)
		}
		spoil(dummy.Out(seat, points))
		spoil(dummy.Open(list, signed))
		dummy.Print(x.Parts)
		want(t, "the laboratory", x, example())
		want(t, "the seat", seat, fives(2))
		want(t, "the points", points, []api.Vector{at(9, 9, 9), at(1, 1, 1)})
		want(t, "the steps", list, steps("fuel arm2"))
		want(t, "the signs", signed, signs("fuel ann"))
	}
	l, _, e := dummy.Parse(figureText)
	want(t, "Parse", e, api.OK)
	spoilParts(l[:1])
	want(t, "the other parts", l[1:], figure()[1:])
}

func TestPartsOfOneResultShareNoMemory(t *testing.T) {
	x := example()
	// One list of parts stands in two tests, and one list of values in two calibrations.
	x.Tests[2].Parts = x.Tests[1].Parts
	x.Calibrations[2].Values = x.Calibrations[0].Values
	x.Parts[2].Corridor = x.Parts[0].Corridor
	without, e := dummy.Without(x, "k4")
	want(t, "Without", e, api.OK)
	without.Tests[1].Parts[0] = "other"
	without.Calibrations[0].Values[0] = 7
	without.Parts[0].Corridor[0] = to(7, 7)
	want(t, "the parts of another test", without.Tests[2].Parts, words("head"))
	want(t, "the values of another calibration", without.Calibrations[2].Values, []int{110})
	want(t, "the corridor of another part", without.Parts[2].Corridor, []api.Interval{to(0, 10)})
}

// anything returns a laboratory that is hardly ever well-formed.
func anything(r *rand.Rand) dummy.Lab {
	numbers := append([]int{-1, 0, 1, 2, 5}, far...)
	names := append([]string{"a", "b", "c"}, badNames...)
	number := func() int { return one(r, numbers[:between(r, 4, len(numbers))]) }
	name := func() string { return one(r, names[:between(r, 2, len(names))]) }
	var x dummy.Lab
	for range r.IntN(4) {
		p := part(name(), name(), number(), at(number(), number(), number()))
		for range r.IntN(3) {
			p.Corridor = append(p.Corridor, to(number(), number()))
		}
		x.Parts = append(x.Parts, p)
		x.Fittings = append(x.Fittings, dummy.Fitting{Day: number(), Part: name(), Specimen: name()})
		x.Calibrations = append(x.Calibrations, calibration(name(), name(), name(), number(), number()))
		x.Tests = append(x.Tests, dummy.Test{Name: name(), Day: number(), Parts: []string{name(), name()}})
	}
	x.Rule = dummy.Rule{Days: number(), Uses: number()}
	return x
}

func TestNothingPanics(t *testing.T) {
	r := dice(11)
	good := example()
	for range 5000 {
		x := anything(r)
		if r.IntN(2) == 0 {
			// Each list alone is wrong.
			x = []dummy.Lab{
				{Parts: x.Parts, Fittings: good.Fittings, Calibrations: good.Calibrations, Tests: good.Tests, Rule: good.Rule},
				{Parts: good.Parts, Fittings: x.Fittings, Calibrations: good.Calibrations, Tests: good.Tests, Rule: good.Rule},
				{Parts: good.Parts, Fittings: good.Fittings, Calibrations: x.Calibrations, Tests: good.Tests, Rule: good.Rule},
				{Parts: good.Parts, Fittings: good.Fittings, Calibrations: good.Calibrations, Tests: x.Tests, Rule: good.Rule},
			}[r.IntN(4)]
		}
		name := one(r, append(words("a b k1 t1 head"), badNames...))
		e := dummy.CheckLab(x)
		if e == api.OK {
			continue
		}
		wantLabErrors(t, x, e)
		if e := dummy.CheckParts(x.Parts); e != api.OK {
			wantTreeErrors(t, x.Parts, name, e)
		}
		var seat []dummy.Box
		var points []api.Vector
		for _, p := range x.Parts {
			points = append(points, p.Joint)
			for _, i := range p.Corridor {
				seat = append(seat, box(i, i, i))
			}
		}
		dummy.Out(seat, points)
		dummy.Open([]dummy.Step{{Name: name}, {Name: name, Two: true}, {Name: "a"}}, []dummy.Sign{{Step: name, Person: "x"}, {Step: name, Person: name}, {Step: "a", Person: "x"}})
	}
}
