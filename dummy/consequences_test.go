package dummy_test

import (
	"math/big"
	"math/rand/v2"
	"slices"
	"testing"

	"crumple/api"
	"crumple/dummy"
)

// P3.5 (consequences): what follows from the results, for many inputs; the dice are the same on each run.

func TestBranchesAddUp(t *testing.T) {
	r := dice(3)
	for range 200 {
		l := someParts(r, dummy.MaxParts)
		var all []string
		for _, p := range l {
			all = append(all, p.Name)
		}
		branch, e := dummy.Branch(l, l[0].Name)
		wantOK(t, "Branch of the root", branch, e, all)
		for _, p := range l {
			wantSumBelow(t, l, p)
		}
	}
}

// wantSumBelow checks the mass and the centre of a branch by those of the branches below its part.
func wantSumBelow(t *testing.T, l []dummy.Part, p dummy.Part) {
	t.Helper()
	place, e := dummy.Place(l, p.Name)
	want(t, "Place", e, api.OK)
	total := p.Mass
	sums := [3]*big.Rat{weighted(p.Mass, whole(place.X, place.Y, place.Z)[0]), weighted(p.Mass, whole(place.X, place.Y, place.Z)[1]), weighted(p.Mass, whole(place.X, place.Y, place.Z)[2])}
	for _, below := range l {
		if below.Parent != p.Name {
			continue
		}
		mass, e := dummy.Mass(l, below.Name)
		want(t, "Mass of a branch below", e, api.OK)
		centre, e := dummy.Centre(l, below.Name)
		want(t, "Centre of a branch below", e, api.OK)
		total += mass
		for axis, x := range centre {
			sums[axis].Add(sums[axis], weighted(mass, x))
		}
	}
	mass, e := dummy.Mass(l, p.Name)
	wantOK(t, "Mass", mass, e, total)
	centre, e := dummy.Centre(l, p.Name)
	want(t, "Centre", e, api.OK)
	for axis, x := range centre {
		want(t, "the centre, weighted by its mass", weighted(mass, x).Cmp(sums[axis]), 0)
	}
}

// weighted returns the product of a mass and a ratio.
func weighted(mass int, x api.Ratio) *big.Rat {
	product := big.NewRat(int64(x.Num), int64(x.Den))
	return product.Mul(product, big.NewRat(int64(mass), 1))
}

func TestMomentThereAndBack(t *testing.T) {
	r := dice(4)
	some := func(most int) api.Vector {
		return at(between(r, -most, most), between(r, -most, most), between(r, -most, most))
	}
	for range 500 {
		// The moment there must be an argument, too.
		moment, force, shift := some(100000), some(600), some(700)
		there, e := dummy.Moment(moment, force, shift)
		want(t, "Moment there", e, api.OK)
		back, e := dummy.Moment(there, force, at(-shift.X, -shift.Y, -shift.Z))
		wantOK(t, "Moment there and back", back, e, moment)
	}
}

// allRests returns on what each test rests, by its name.
func allRests(t *testing.T, x dummy.Lab) map[string][]string {
	t.Helper()
	rests := map[string][]string{}
	for _, u := range x.Tests {
		l, e := dummy.Rests(x, u.Name)
		want(t, "Rests", e, api.OK)
		rests[u.Name] = l
	}
	return rests
}

func TestWithdrawnCalibrationReachesJustItsTests(t *testing.T) {
	r := dice(5)
	for range 500 {
		x := someLab(r)
		before := allRests(t, x)
		for _, c := range x.Calibrations {
			without, e := dummy.Without(x, c.Name)
			want(t, "Without", e, api.OK)
			want(t, "CheckLab of what is left", dummy.CheckLab(without), api.OK)
			after := allRests(t, without)
			var changed []string
			for _, u := range x.Tests {
				if !slices.Equal(before[u.Name], after[u.Name]) {
					changed = append(changed, u.Name)
				}
			}
			reached, e := dummy.Withdrawn(x, c.Name)
			wantOK(t, "Withdrawn", reached, e, changed)
		}
	}
}

func TestCoveredTestsRestOnGoodCalibrations(t *testing.T) {
	r := dice(6)
	covered := 0
	for range 500 {
		x := someLab(r)
		rests := allRests(t, x)
		l, e := dummy.Covered(x)
		want(t, "Covered", e, api.OK)
		for _, u := range l {
			covered++
			for _, k := range rests[u] {
				good, e := dummy.Good(x, k)
				wantOK(t, "Good of "+k, good, e, true)
			}
		}
	}
	want(t, "whether there were any", covered > 100, true)
}

// someGood returns a good calibration of a laboratory, and an index at which it may stand.
func someGood(r *rand.Rand, x dummy.Lab) (dummy.Calibration, int) {
	p := one(r, x.Parts)
	c := calibration("further", p.Name, one(r, words("s1 s2")), between(r, 1, 15))
	for _, i := range p.Corridor {
		c.Values = append(c.Values, between(r, i.Low, i.High))
	}
	i := 0
	for i < len(x.Calibrations) && x.Calibrations[i].Day < c.Day {
		i++
	}
	return c, i
}

func TestNoTestBecomesQuestionableByAGoodCalibration(t *testing.T) {
	r := dice(7)
	vouched := 0
	for range 2000 {
		x := someLab(r)
		before, e := dummy.Questionable(x)
		want(t, "Questionable", e, api.OK)
		c, i := someGood(r, x)
		x.Calibrations = slices.Insert(x.Calibrations, i, c)
		after, e := dummy.Questionable(x)
		want(t, "Questionable with a further good one", e, api.OK)
		for _, u := range after {
			want(t, "whether "+u+" was questionable before", slices.Contains(before, u), true)
		}
		vouched += len(before) - len(after)
	}
	want(t, "whether it has vouched for some", vouched > 20, true)
}

func TestNoTestBeforeAGoodCalibrationIsQuestionableAfterIt(t *testing.T) {
	r := dice(8)
	questionable := 0
	for range 2000 {
		x := someLab(r)
		c, i := someGood(r, x)
		later := []dummy.Calibration{c}
		for _, other := range x.Calibrations[i:] {
			if other.Part == c.Part && other.Specimen == c.Specimen {
				later = append(later, other)
			}
		}
		x.Calibrations = later
		l, e := dummy.Questionable(x)
		want(t, "Questionable", e, api.OK)
		questionable += len(l)
		for _, u := range x.Tests {
			want(t, u.Name+" before a good one is questionable", u.Day < c.Day && slices.Contains(l, u.Name), false)
		}
	}
	want(t, "whether there were any", questionable > 50, true)
}

func TestFurtherTestChangesNothingBefore(t *testing.T) {
	r := dice(9)
	for range 500 {
		x := someLab(r)
		longer := x
		last := test("further", 16, x.Parts[0].Name)
		longer.Tests = append(slices.Clone(x.Tests), last)
		for _, u := range x.Tests {
			for _, ask := range []func(dummy.Lab, string) ([]string, api.Errno){dummy.Rests, dummy.Wrong} {
				before, e := ask(x, u.Name)
				want(t, "before a further test", e, api.OK)
				after, e := ask(longer, u.Name)
				wantOK(t, "after a further test", after, e, before)
			}
		}
		for _, ask := range []func(dummy.Lab) ([]string, api.Errno){dummy.Covered, dummy.Questionable} {
			before, e := ask(x)
			want(t, "before a further test", e, api.OK)
			after, e := ask(longer)
			after = slices.DeleteFunc(after, func(name string) bool { return name == last.Name })
			wantOK(t, "after a further test", after, e, before)
		}
	}
}

func TestPartsAreParsedAsTheyWerePrinted(t *testing.T) {
	r := dice(10)
	for range 300 {
		l := someParts(r, dummy.MaxParts)
		s, e := dummy.Print(l)
		want(t, "Print", e, api.OK)
		again, i, e := dummy.Parse(s)
		wantOK(t, "Parse", again, e, l)
		want(t, "the index of Parse", i, 0)
	}
}
