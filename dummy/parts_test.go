package dummy_test

import (
	"fmt"
	"math/big"
	"math/rand/v2"
	"slices"
	"testing"

	"crumple/api"
	"crumple/dummy"
	"crumple/record"
)

// P3.1 (trees): each function with ordinary inputs, at its limits, and with its errors in their order.

// whole returns the ratios of integers.
func whole(x, y, z int) [3]api.Ratio {
	return [3]api.Ratio{{Num: x, Den: 1}, {Num: y, Den: 1}, {Num: z, Den: 1}}
}

func TestCheckParts(t *testing.T) {
	for _, l := range [][]dummy.Part{
		figure(), row(1), row(dummy.MaxParts), full().Parts,
		{part(longest, "", 1, at(0, 0, 0), to(0, 0)), part("A_9", longest, dummy.MaxMass, at(-dummy.MaxPlace, dummy.MaxPlace, -dummy.MaxPlace), to(dummy.MaxValue, dummy.MaxValue), to(-dummy.MaxValue, -dummy.MaxValue))},
	} {
		want(t, "CheckParts", dummy.CheckParts(l), api.OK)
	}
	for _, bad := range badParts() {
		want(t, fmt.Sprintf("CheckParts of %v", bad.x), dummy.CheckParts(bad.x), bad.e)
	}
}

func TestTreesOfTheExample(t *testing.T) {
	for _, x := range []struct {
		part          string
		chain, branch string
		place         api.Vector
		mass          int
		centre        [3]api.Ratio
	}{
		// The sums are 10, 0 and 15 x 40 + 5 x 70 = 950.
		{"pelvis", "pelvis", "pelvis chest head", at(0, 0, 0), 40, [3]api.Ratio{{Num: 1, Den: 4}, {Num: 0, Den: 1}, {Num: 95, Den: 4}}},
		{"chest", "chest pelvis", "chest head", at(0, 0, 40), 20, [3]api.Ratio{{Num: 1, Den: 2}, {Num: 0, Den: 1}, {Num: 95, Den: 2}}},
		{"head", "head chest pelvis", "head", at(2, 0, 70), 5, whole(2, 0, 70)},
	} {
		chain, e := dummy.Chain(figure(), x.part)
		wantOK(t, "Chain of "+x.part, chain, e, words(x.chain))
		branch, e := dummy.Branch(figure(), x.part)
		wantOK(t, "Branch of "+x.part, branch, e, words(x.branch))
		place, e := dummy.Place(figure(), x.part)
		wantOK(t, "Place of "+x.part, place, e, x.place)
		mass, e := dummy.Mass(figure(), x.part)
		wantOK(t, "Mass of "+x.part, mass, e, x.mass)
		centre, e := dummy.Centre(figure(), x.part)
		wantOK(t, "Centre of "+x.part, centre, e, x.centre)
	}
}

func TestTreesAtTheirLimits(t *testing.T) {
	l := full().Parts
	place, e := dummy.Place(l, "p15")
	wantOK(t, "Place", place, e, at(-160000, 160000, 160000))
	mass, e := dummy.Mass(l, "p0")
	wantOK(t, "Mass", mass, e, 1600000)
	centre, e := dummy.Centre(l, "p0")
	wantOK(t, "Centre", centre, e, whole(-85000, 85000, 85000))
	// A ratio has no limits: here it is 135999840000 by 1599999, both of which 3 divides.
	l[15].Mass--
	centre, e = dummy.Centre(l, "p0")
	wantOK(t, "Centre in lowest terms", centre, e, [3]api.Ratio{{Num: -45333280000, Den: 533333}, {Num: 45333280000, Den: 533333}, {Num: 45333280000, Den: 533333}})
}

func TestTreesWithErrors(t *testing.T) {
	bad := badParts()
	for _, name := range []string{"", "-", "none", "Head", "head ", longest + "x"} {
		bad = append(bad, wrong[[]dummy.Part]{figure(), api.ErrUnknown})
		wantTreeErrors(t, figure(), name, api.ErrUnknown)
	}
	for _, b := range bad {
		wantTreeErrors(t, b.x, "none", b.e)
	}
}

// wantTreeErrors checks the error of all functions of a part.
func wantTreeErrors(t *testing.T, l []dummy.Part, name string, wanted api.Errno) {
	t.Helper()
	chain, e := dummy.Chain(l, name)
	wantError(t, "Chain of "+name, chain, e, wanted)
	branch, e := dummy.Branch(l, name)
	wantError(t, "Branch of "+name, branch, e, wanted)
	place, e := dummy.Place(l, name)
	wantError(t, "Place of "+name, place, e, wanted)
	mass, e := dummy.Mass(l, name)
	wantError(t, "Mass of "+name, mass, e, wanted)
	centre, e := dummy.Centre(l, name)
	wantError(t, "Centre of "+name, centre, e, wanted)
}

// someParts returns parts with some tree.
func someParts(r *rand.Rand, most int) []dummy.Part {
	var l []dummy.Part
	for i := range between(r, 1, most) {
		parent := ""
		if i > 0 {
			parent = one(r, l).Name
		}
		var corridor []api.Interval
		for range between(r, 1, 2) {
			low := between(r, -3, 1)
			corridor = append(corridor, to(low, between(r, low, 3)))
		}
		joint := at(between(r, -9, 9), between(r, -9, 9), between(r, -9, 9))
		l = append(l, part(fmt.Sprintf("p%d", i), parent, between(r, 1, 12), joint, corridor...))
	}
	return l
}

// above reports whether a part is in another one's chain, by its definition.
func above(l []dummy.Part, other, name string) bool {
	i := slices.IndexFunc(l, func(p dummy.Part) bool { return p.Name == name })
	return i >= 0 && (name == other || above(l, other, l[i].Parent))
}

func TestTreesByTheirDefinitions(t *testing.T) {
	r := dice(1)
	for range 200 {
		l := someParts(r, dummy.MaxParts)
		for _, p := range l {
			var chain, branch []string
			place, mass, sums := at(0, 0, 0), 0, at(0, 0, 0)
			for _, q := range l {
				if above(l, q.Name, p.Name) {
					chain = append([]string{q.Name}, chain...)
					place = at(place.X+q.Joint.X, place.Y+q.Joint.Y, place.Z+q.Joint.Z)
				}
				if above(l, p.Name, q.Name) {
					branch = append(branch, q.Name)
					mass += q.Mass
					where, e := dummy.Place(l, q.Name)
					want(t, "Place", e, api.OK)
					sums = at(sums.X+q.Mass*where.X, sums.Y+q.Mass*where.Y, sums.Z+q.Mass*where.Z)
				}
			}
			gotChain, e := dummy.Chain(l, p.Name)
			wantOK(t, "Chain", gotChain, e, chain)
			gotBranch, e := dummy.Branch(l, p.Name)
			wantOK(t, "Branch", gotBranch, e, branch)
			gotPlace, e := dummy.Place(l, p.Name)
			wantOK(t, "Place", gotPlace, e, place)
			gotMass, e := dummy.Mass(l, p.Name)
			wantOK(t, "Mass", gotMass, e, mass)
			centre, e := dummy.Centre(l, p.Name)
			wantOK(t, "Centre", centre, e, [3]api.Ratio{ratio(sums.X, mass), ratio(sums.Y, mass), ratio(sums.Z, mass)})
			for _, x := range centre {
				want(t, "CheckRatio", record.CheckRatio(x), api.OK)
			}
		}
	}
}

// ratio returns a quotient in lowest terms.
func ratio(a, b int) api.Ratio {
	x := big.NewRat(int64(a), int64(b))
	return api.Ratio{Num: int(x.Num().Int64()), Den: int(x.Denom().Int64())}
}

func TestMoment(t *testing.T) {
	for _, x := range []struct{ moment, force, shift, wanted api.Vector }{
		{at(0, 10, 0), at(100, 0, 0), at(0, 0, -2), at(0, -190, 0)},
		{at(1, 2, 3), at(0, 0, 0), at(4, 5, 6), at(1, 2, 3)},
		{at(1, 2, 3), at(4, 5, 6), at(0, 0, 0), at(1, 2, 3)},
		// Each part of the force, and of the shift, alone.
		{at(0, 0, 0), at(1, 0, 0), at(2, 3, 5), at(0, 5, -3)}, {at(0, 0, 0), at(0, 1, 0), at(2, 3, 5), at(-5, 0, 2)}, {at(0, 0, 0), at(0, 0, 1), at(2, 3, 5), at(3, -2, 0)},
		{at(7, 8, 9), at(2, 3, 5), at(1, 1, 1), at(7+5-3, 8+2-5, 9+3-2)},
		{at(1000000, -1000000, 1000000), at(-1000000, -1000000, 1000000), at(10000, 10000, 10000), at(20001000000, -20001000000, 1000000)},
	} {
		m, e := dummy.Moment(x.moment, x.force, x.shift)
		wantOK(t, "Moment", m, e, x.wanted)
	}
}

func TestMomentErrors(t *testing.T) {
	good := at(1, 2, 3)
	for _, n := range append([]int{dummy.MaxForce + 1, -dummy.MaxForce - 1}, far...) {
		for _, bad := range []api.Vector{at(n, 0, 0), at(0, n, 0), at(0, 0, n)} {
			m, e := dummy.Moment(bad, good, good)
			wantError(t, "Moment of a bad moment", m, e, api.ErrRange)
			m, e = dummy.Moment(good, bad, good)
			wantError(t, "Moment of a bad force", m, e, api.ErrRange)
			m, e = dummy.Moment(good, good, bad)
			wantError(t, "Moment of a bad shift", m, e, api.ErrRange)
		}
	}
	for _, n := range []int{dummy.MaxPlace + 1, -dummy.MaxPlace - 1} {
		for _, bad := range []api.Vector{at(n, 0, 0), at(0, n, 0), at(0, 0, n)} {
			m, e := dummy.Moment(good, good, bad)
			wantError(t, "Moment of a bad shift", m, e, api.ErrRange)
			m, e = dummy.Moment(bad, good, good)
			want(t, "Moment of a great moment", e, api.OK)
			want(t, "Moment of a great moment", m, bad)
		}
	}
}
