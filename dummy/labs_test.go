package dummy_test

import (
	"fmt"
	"slices"
	"testing"

	"crumple/api"
	"crumple/dummy"
)

// P3.2 (calibrations): CheckLab, Specimen and Without, and the errors that all functions of a laboratory share.

// damage changes something of a laboratory, which then has an error.
type damage struct {
	do func(*dummy.Lab)
	e  api.Errno
}

// damages has, group by group in the order in which they are examined, the damages of one part of the laboratory.
func damages() [][]damage {
	return [][]damage{partDamages(), fittingDamages(), calibrationDamages(), testDamages(), ruleDamages()}
}

func partDamages() []damage {
	var l []damage
	for _, bad := range badParts() {
		l = append(l, damage{func(x *dummy.Lab) { x.Parts = bad.x }, bad.e})
	}
	return l
}

// fittingDamages replaces the second fitting, which has the day 1 and comes before one of the day 20 with a wrong part.
func fittingDamages() []damage {
	l := []damage{
		{func(x *dummy.Lab) { x.Fittings = make([]dummy.Fitting, dummy.MaxFittings+1) }, api.ErrMany},
		{func(x *dummy.Lab) {
			x.Fittings = slices.Repeat([]dummy.Fitting{{Day: 1, Part: "head", Specimen: "h"}}, dummy.MaxFittings+1)
		}, api.ErrMany},
	}
	for _, bad := range []wrong[dummy.Fitting]{
		{dummy.Fitting{Day: 0, Part: "none", Specimen: ""}, api.ErrRange}, {dummy.Fitting{Day: -1, Part: "head", Specimen: "h"}, api.ErrRange}, {dummy.Fitting{Day: api.MaxDay + 1, Part: "head", Specimen: "h"}, api.ErrRange},
		{dummy.Fitting{Day: 1, Part: "none", Specimen: ""}, api.ErrUnknown}, {dummy.Fitting{Day: 1, Part: "", Specimen: "h"}, api.ErrUnknown}, {dummy.Fitting{Day: 1, Part: "Head", Specimen: "h"}, api.ErrUnknown},
		{dummy.Fitting{Day: 1, Part: "head", Specimen: ""}, api.ErrName}, {dummy.Fitting{Day: 1, Part: "head", Specimen: "9"}, api.ErrName}, {dummy.Fitting{Day: 1, Part: "head", Specimen: longest + "x"}, api.ErrName},
		{dummy.Fitting{Day: 1, Part: "head", Specimen: "h"}, api.ErrOrder},
	} {
		l = append(l, damage{func(x *dummy.Lab) {
			x.Fittings[0].Day, x.Fittings[1], x.Fittings[2].Part = 2, bad.x, "none"
		}, bad.e})
	}
	return l
}

// calibrationDamages replaces the second calibration, after k1 on 3, and before one with a wrong name.
func calibrationDamages() []damage {
	l := []damage{
		{func(x *dummy.Lab) { x.Calibrations = make([]dummy.Calibration, dummy.MaxCalibrations+1) }, api.ErrMany},
		{func(x *dummy.Lab) {
			x.Calibrations = nil
			for i := range dummy.MaxCalibrations + 1 {
				x.Calibrations = append(x.Calibrations, calibration(fmt.Sprintf("k%d", i), "head", "h1", 1, 110))
			}
		}, api.ErrMany},
	}
	for _, bad := range []wrong[dummy.Calibration]{
		{calibration("", "none", "", 0), api.ErrName}, {calibration("k 2", "chest", "c1", 3, 55, 5), api.ErrName}, {calibration(longest+"x", "chest", "c1", 3, 55, 5), api.ErrName},
		{calibration("k1", "none", "", 0), api.ErrTwice}, {calibration("k1", "chest", "c1", 3, 55, 5), api.ErrTwice},
		{calibration("k2", "none", "", 0), api.ErrUnknown}, {calibration("k2", "", "c1", 3), api.ErrUnknown}, {calibration("k2", "none", "c1", 3), api.ErrUnknown},
		{calibration("k2", "chest", "", 0), api.ErrName}, {calibration("k2", "chest", "c-1", 3, 55, 5), api.ErrName},
		{calibration("k2", "chest", "c1", 0), api.ErrRange}, {calibration("k2", "chest", "c1", -3, 55, 5), api.ErrRange}, {calibration("k2", "chest", "c1", api.MaxDay+1, 55), api.ErrRange},
		{calibration("k2", "chest", "c1", 1), api.ErrShape}, {calibration("k2", "chest", "c1", 1, dummy.MaxValue+1), api.ErrShape}, {calibration("k2", "chest", "c1", 3, 55, 5, 5), api.ErrShape},
		{calibration("k2", "chest", "c1", 1, 55, dummy.MaxValue+1), api.ErrRange}, {calibration("k2", "chest", "c1", 1, -dummy.MaxValue-1, 5), api.ErrRange},
		{calibration("k2", "chest", "c1", 2, 55, 5), api.ErrOrder},
	} {
		l = append(l, damage{func(x *dummy.Lab) {
			x.Calibrations[0].Day, x.Calibrations[1], x.Calibrations[2].Name = 3, bad.x, ""
		}, bad.e})
	}
	return l
}

// testDamages replaces the second test, after t1 on 3, and before one with a wrong name.
func testDamages() []damage {
	l := []damage{
		{func(x *dummy.Lab) { x.Tests = make([]dummy.Test, dummy.MaxTests+1) }, api.ErrMany},
		{func(x *dummy.Lab) {
			x.Tests = nil
			for i := range dummy.MaxTests + 1 {
				x.Tests = append(x.Tests, test(fmt.Sprintf("t%d", i), 1, "head"))
			}
		}, api.ErrMany},
	}
	for _, bad := range []wrong[dummy.Test]{
		{test("", 0, ""), api.ErrName}, {test("t\x00", 5, "head"), api.ErrName}, {test(longest+"x", 5, "head"), api.ErrName},
		{test("t1", 0, ""), api.ErrTwice}, {test("t1", 5, "head"), api.ErrTwice},
		{test("t2", 0, ""), api.ErrRange}, {test("t2", -5, "head"), api.ErrRange}, {test("t2", api.MaxDay+1, ""), api.ErrRange},
		{test("t2", 1, ""), api.ErrEmpty},
		{dummy.Test{Name: "t2", Day: 1, Parts: make([]string, dummy.MaxParts+1)}, api.ErrMany},
		{test("t2", 1, "head none head"), api.ErrUnknown}, {test("t2", 1, "none none"), api.ErrUnknown}, {dummy.Test{Name: "t2", Day: 5, Parts: []string{""}}, api.ErrUnknown},
		{test("t2", 1, "head head none"), api.ErrTwice}, {test("t2", 5, "head chest pelvis head"), api.ErrTwice},
		{test("t2", 2, "head"), api.ErrOrder},
	} {
		l = append(l, damage{func(x *dummy.Lab) { x.Tests[1], x.Tests[2].Name = bad.x, "" }, bad.e})
	}
	return l
}

func ruleDamages() []damage {
	var l []damage
	for _, bad := range []dummy.Rule{{Days: -1, Uses: 1}, {Days: dummy.MaxDays + 1, Uses: 1}, {Days: 0, Uses: 0}, {Days: 0, Uses: -1}, {Days: 0, Uses: dummy.MaxUses + 1}, {Days: far[0], Uses: far[4]}} {
		l = append(l, damage{func(x *dummy.Lab) { x.Rule = bad }, api.ErrRange})
	}
	return l
}

// badLabs has laboratories with one error, and with one of a group before an error of each later group.
func badLabs() []wrong[dummy.Lab] {
	var l []wrong[dummy.Lab]
	groups := damages()
	for i, group := range groups {
		for _, d := range group {
			x := example()
			d.do(&x)
			l = append(l, wrong[dummy.Lab]{x, d.e})
			for _, later := range groups[i+1:] {
				x := example()
				d.do(&x)
				later[0].do(&x)
				l = append(l, wrong[dummy.Lab]{x, d.e})
			}
		}
	}
	return l
}

func TestCheckLab(t *testing.T) {
	calm := dummy.Lab{Parts: figure(), Rule: dummy.Rule{Days: 0, Uses: 1}}
	same := example()
	for i := range same.Tests {
		same.Tests[i].Day = 20
	}
	for _, x := range []dummy.Lab{example(), full(), calm, same} {
		want(t, "CheckLab", dummy.CheckLab(x), api.OK)
	}
	for _, bad := range badLabs() {
		want(t, fmt.Sprintf("CheckLab of %+v", bad.x), dummy.CheckLab(bad.x), bad.e)
	}
	want(t, "CheckLab of nothing", dummy.CheckLab(dummy.Lab{}), api.ErrEmpty)
}

func TestSpecimen(t *testing.T) {
	for _, x := range []struct {
		part     string
		day      int
		specimen string
	}{{"head", 1, "h1"}, {"head", 19, "h1"}, {"head", 20, "h2"}, {"head", api.MaxDay, "h2"}, {"chest", 1, "c1"}, {"chest", 21, "c1"}} {
		s, e := dummy.Specimen(example(), x.part, x.day)
		wantOK(t, "Specimen", s, e, x.specimen)
	}
	s, e := dummy.Specimen(example(), "pelvis", api.MaxDay)
	wantError(t, "Specimen of a part that was never fitted", s, e, api.ErrNone)
	x := example()
	x.Fittings = []dummy.Fitting{{Day: 5, Part: "head", Specimen: "a"}, {Day: 5, Part: "head", Specimen: "b"}, {Day: 5, Part: "chest", Specimen: "b"}}
	s, e = dummy.Specimen(x, "head", 4)
	wantError(t, "Specimen before the first fitting", s, e, api.ErrNone)
	s, e = dummy.Specimen(x, "head", 5)
	wantOK(t, "Specimen of two fittings on one day", s, e, "b")
	s, e = dummy.Specimen(x, "chest", 5)
	wantOK(t, "Specimen that two parts have", s, e, "b")
}

func TestLabErrors(t *testing.T) {
	for _, bad := range badLabs() {
		wantLabErrors(t, bad.x, bad.e)
	}
}

// wantLabErrors checks that the error of a laboratory comes before those of the other arguments.
func wantLabErrors(t *testing.T, x dummy.Lab, wanted api.Errno) {
	t.Helper()
	s, e := dummy.Specimen(x, "none", 0)
	wantError(t, "Specimen", s, e, wanted)
	good, e := dummy.Good(x, "none")
	wantError(t, "Good", good, e, wanted)
	without, e := dummy.Without(x, "none")
	wantError(t, "Without", without, e, wanted)
	for what, ask := range map[string]func() ([]string, api.Errno){
		"Rests":        func() ([]string, api.Errno) { return dummy.Rests(x, "none") },
		"Wrong":        func() ([]string, api.Errno) { return dummy.Wrong(x, "none") },
		"Covered":      func() ([]string, api.Errno) { return dummy.Covered(x) },
		"Questionable": func() ([]string, api.Errno) { return dummy.Questionable(x) },
		"Withdrawn":    func() ([]string, api.Errno) { return dummy.Withdrawn(x, "none") },
		"Due":          func() ([]string, api.Errno) { return dummy.Due(x, 0) },
	} {
		l, e := ask()
		wantError(t, what, l, e, wanted)
	}
}

func TestErrorsOfTheOtherArguments(t *testing.T) {
	x := example()
	for _, name := range []string{"", "none", "K1", "T1", "k1 ", "-", "c1"} {
		s, e := dummy.Specimen(x, name, 0)
		wantError(t, "Specimen of a part that is none", s, e, api.ErrUnknown)
		good, e := dummy.Good(x, name)
		wantError(t, "Good", good, e, api.ErrUnknown)
		without, e := dummy.Without(x, name)
		wantError(t, "Without", without, e, api.ErrUnknown)
		l, e := dummy.Rests(x, name)
		wantError(t, "Rests", l, e, api.ErrUnknown)
		l, e = dummy.Wrong(x, name)
		wantError(t, "Wrong", l, e, api.ErrUnknown)
		l, e = dummy.Withdrawn(x, name)
		wantError(t, "Withdrawn", l, e, api.ErrUnknown)
	}
	for _, day := range append([]int{0, -1, api.MaxDay + 1}, far...) {
		// A part without a specimen would have an error, too.
		s, e := dummy.Specimen(x, "pelvis", day)
		wantError(t, "Specimen", s, e, api.ErrRange)
		l, e := dummy.Due(x, day)
		wantError(t, "Due", l, e, api.ErrRange)
	}
	// Each name is of its own kind.
	_, e := dummy.Good(x, "t1")
	want(t, "Good of a test", e, api.ErrUnknown)
	_, e = dummy.Rests(x, "k1")
	want(t, "Rests of a calibration", e, api.ErrUnknown)
	_, e = dummy.Specimen(x, "h1", 1)
	want(t, "Specimen of a specimen", e, api.ErrUnknown)
}

func TestWithout(t *testing.T) {
	for i, k := range []string{"k1", "k2", "k3", "k4"} {
		wanted := example()
		wanted.Calibrations = slices.Delete(wanted.Calibrations, i, i+1)
		x, e := dummy.Without(example(), k)
		wantOK(t, "Without "+k, x, e, wanted)
	}
	x := full()
	for i := range x.Calibrations {
		without, e := dummy.Without(x, x.Calibrations[0].Name)
		want(t, "Without", e, api.OK)
		want(t, "the number that is left", len(without.Calibrations), 63-i)
		x = without
	}
	want(t, "what is left", dummy.CheckLab(x), api.OK)
}
