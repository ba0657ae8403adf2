package dummy_test

import (
	"fmt"
	"math/rand/v2"
	"slices"
	"strings"
	"testing"

	"crumple/api"
	"crumple/dummy"
)

// P3.2 (calibrations): on what tests rest, and what is wrong with them.

// dashed returns the words of a text, with the empty string for -.
func dashed(s string) []string {
	l := words(s)
	for i, w := range l {
		l[i] = strings.TrimPrefix(w, "-")
	}
	return l
}

// wantRests checks on what a test rests, and what is wrong with it.
func wantRests(t *testing.T, x dummy.Lab, name, rests, flaws string) {
	t.Helper()
	l, e := dummy.Rests(x, name)
	wantOK(t, "Rests of "+name, l, e, dashed(rests))
	l, e = dummy.Wrong(x, name)
	wantOK(t, "Wrong of "+name, l, e, dashed(flaws))
}

// wantTests checks the tests that are covered, and those that are questionable.
func wantTests(t *testing.T, x dummy.Lab, covered, questionable string) {
	t.Helper()
	l, e := dummy.Covered(x)
	wantOK(t, "Covered", l, e, words(covered))
	l, e = dummy.Questionable(x)
	wantOK(t, "Questionable", l, e, words(questionable))
}

func wantDue(t *testing.T, x dummy.Lab, day int, due string) {
	t.Helper()
	l, e := dummy.Due(x, day)
	wantOK(t, fmt.Sprintf("Due on %d", day), l, e, words(due))
}

func TestGood(t *testing.T) {
	for k, good := range map[string]bool{"k1": true, "k2": true, "k3": false, "k4": true} {
		got, e := dummy.Good(example(), k)
		wantOK(t, "Good of "+k, got, e, good)
	}
	for _, c := range []struct {
		first, second int
		good          bool
	}{{50, 5, true}, {60, 5, true}, {49, 5, false}, {61, 5, false}, {55, 4, false}, {55, 6, false}, {-55, 5, false}, {dummy.MaxValue, 5, false}, {55, -dummy.MaxValue, false}} {
		x := example()
		x.Calibrations[1].Values = []int{c.first, c.second}
		good, e := dummy.Good(x, "k2")
		wantOK(t, fmt.Sprint("Good of ", c), good, e, c.good)
	}
}

func TestLabOfTheExample(t *testing.T) {
	x := example()
	wantRests(t, x, "t1", "k1 k2", "- -")
	wantRests(t, x, "t2", "k1", "-")
	wantRests(t, x, "t3", "k1", "worn")
	wantRests(t, x, "t4", "k4", "-")
	wantRests(t, x, "t5", "k2", "old")
	wantRests(t, x, "t6", "-", "missing")
	wantTests(t, x, "t1 t2 t4", "t1 t2 t3")
	for k, reached := range map[string]string{"k1": "t1 t2 t3", "k2": "t1 t5", "k3": "", "k4": "t4"} {
		l, e := dummy.Withdrawn(x, k)
		wantOK(t, "Withdrawn of "+k, l, e, words(reached))
	}
	// On 12 the chest has 10 days, on 20 the head has a new specimen, which is worn by no test, on 31 nothing is valid.
	for day, due := range map[int]string{1: "pelvis chest head", 2: "pelvis", 3: "pelvis", 4: "pelvis", 5: "pelvis head", 12: "pelvis head", 13: "pelvis chest head", 15: "pelvis chest head", 20: "pelvis chest", 30: "pelvis chest", 31: "pelvis chest head", api.MaxDay: "pelvis chest head"} {
		wantDue(t, x, day, due)
	}
}

func TestGoodOneVouches(t *testing.T) {
	for day, questionable := range map[int]string{2: "t1 t2 t3", 3: "t1 t2 t3", 4: "t2 t3", 5: "t2 t3", 6: "t3", 7: "", 15: ""} {
		x := example()
		x.Calibrations = slices.Insert(x.Calibrations, 2, calibration("k", "head", "h1", day, 100))
		l, e := dummy.Questionable(x)
		wantOK(t, fmt.Sprintf("Questionable with a good one on %d", day), l, e, words(questionable))
	}
	for what, c := range map[string]dummy.Calibration{
		"a bad one": calibration("k", "head", "h1", 10, 99), "one of another specimen": calibration("k", "head", "h2", 10, 100), "one of another part": calibration("k", "chest", "h1", 10, 55, 5),
	} {
		x := example()
		x.Calibrations = slices.Insert(x.Calibrations, 2, c)
		l, e := dummy.Questionable(x)
		wantOK(t, "Questionable with "+what, l, e, words("t1 t2 t3"))
	}
	x := example()
	x.Calibrations = slices.Insert(x.Calibrations, 3, calibration("k", "head", "h1", 15, 100))
	l, e := dummy.Questionable(x)
	wantOK(t, "Questionable with a good one after the bad one", l, e, words("t1 t2 t3"))
}

// alone returns a laboratory with the part head alone, whose specimen is h from the day 1 on.
func alone(rule dummy.Rule, calibrations []dummy.Calibration, days ...int) dummy.Lab {
	x := dummy.Lab{
		Parts:        []dummy.Part{part("head", "", 1, at(0, 0, 0), to(100, 120))},
		Fittings:     []dummy.Fitting{{Day: 1, Part: "head", Specimen: "h"}},
		Calibrations: calibrations,
		Rule:         rule,
	}
	for i, day := range days {
		x.Tests = append(x.Tests, test(fmt.Sprintf("t%d", i+1), day, "head"))
	}
	return x
}

func good(name string, day int) dummy.Calibration { return calibration(name, "head", "h", day, 110) }

func bad(name string, day int) dummy.Calibration { return calibration(name, "head", "h", day, 99) }

func TestWhatIsWrong(t *testing.T) {
	strict := dummy.Rule{Days: 0, Uses: 1}
	for _, x := range []struct {
		lab          dummy.Lab
		test         string
		rests, flaws string
	}{
		{alone(strict, nil, 5), "t1", "-", "uncalibrated"},
		// On one day the calibrations come before the tests.
		{alone(strict, []dummy.Calibration{good("a", 5)}, 5), "t1", "a", "-"},
		{alone(strict, []dummy.Calibration{good("a", 6)}, 5), "t1", "-", "uncalibrated"},
		{alone(strict, []dummy.Calibration{good("a", 5)}, 5, 5), "t2", "a", "worn"},
		{alone(strict, []dummy.Calibration{good("a", 5)}, 6), "t1", "a", "old"},
		{alone(dummy.Rule{Days: 1, Uses: 1}, []dummy.Calibration{good("a", 5)}, 6), "t1", "a", "-"},
		{alone(strict, []dummy.Calibration{good("a", 4), good("b", 5)}, 4, 5), "t2", "b", "-"},
		// The last one counts, also if it is not good, or if several have one day.
		{alone(strict, []dummy.Calibration{good("a", 5), bad("b", 5)}, 5), "t1", "b", "failed"},
		{alone(strict, []dummy.Calibration{bad("a", 5), good("b", 5)}, 5), "t1", "b", "-"},
		{alone(strict, []dummy.Calibration{bad("a", 1)}, 1, 5), "t2", "a", "failed"},
		// What is old comes before what is worn.
		{alone(strict, []dummy.Calibration{good("a", 1)}, 1, 5), "t2", "a", "old"},
		{alone(dummy.Rule{Days: 4, Uses: 1}, []dummy.Calibration{good("a", 1)}, 1, 5), "t2", "a", "worn"},
		{alone(dummy.Rule{Days: 4, Uses: 2}, []dummy.Calibration{good("a", 1)}, 1, 5), "t2", "a", "-"},
		{alone(dummy.Rule{Days: 1000, Uses: 3}, []dummy.Calibration{good("a", 2)}, 1, 2, 3, 1002), "t4", "a", "-"},
		{alone(dummy.Rule{Days: 1000, Uses: 3}, []dummy.Calibration{good("a", 2)}, 2, 2, 2, 1003), "t4", "a", "old"},
	} {
		wantRests(t, x.lab, x.test, x.rests, x.flaws)
	}
}

func TestUsesAreOfTheSpecimen(t *testing.T) {
	// The specimen h goes from the head to the neck: tests with either have used it, once if with both.
	x := dummy.Lab{
		Parts:        []dummy.Part{part("head", "", 1, at(0, 0, 0), to(0, 9)), part("neck", "head", 1, at(0, 0, 0), to(0, 9))},
		Fittings:     []dummy.Fitting{{Day: 1, Part: "head", Specimen: "h"}, {Day: 3, Part: "neck", Specimen: "h"}, {Day: 5, Part: "head", Specimen: "g"}},
		Calibrations: []dummy.Calibration{calibration("a", "head", "h", 1, 5), calibration("b", "neck", "h", 3, 5), calibration("c", "head", "g", 5, 5)},
		Tests:        []dummy.Test{test("t1", 1, "head"), test("t2", 3, "neck head"), test("t3", 4, "neck"), test("t4", 5, "head"), test("t5", 6, "head neck")},
		Rule:         dummy.Rule{Days: 9, Uses: 2},
	}
	wantRests(t, x, "t1", "a", "-")
	wantRests(t, x, "t2", "b a", "- -")
	wantRests(t, x, "t3", "b", "-")
	wantRests(t, x, "t4", "c", "-")
	wantRests(t, x, "t5", "c b", "- worn")
	wantTests(t, x, "t1 t2 t3 t4", "")
	for day, due := range map[int]string{1: "neck", 2: "neck", 3: "head", 4: "head neck", 5: "neck", 6: "head neck"} {
		wantDue(t, x, day, due)
	}
	for k, reached := range map[string]string{"a": "t1 t2", "b": "t2 t3 t5", "c": "t4 t5"} {
		l, e := dummy.Withdrawn(x, k)
		wantOK(t, "Withdrawn of "+k, l, e, words(reached))
	}
}

func TestNotCalibratedAsThisPart(t *testing.T) {
	// The specimen was calibrated as another part: this does not count, neither for a test nor against it.
	x := example()
	x.Parts[0].Corridor = x.Parts[2].Corridor
	x.Fittings = append(x.Fittings, dummy.Fitting{Day: 20, Part: "pelvis", Specimen: "h1"})
	wantRests(t, x, "t6", "-", "uncalibrated")
	x.Calibrations = append(x.Calibrations, calibration("k5", "pelvis", "h1", 30, 0))
	wantTests(t, x, "t1 t2 t4", "t1 t2 t3 t6")
	x.Calibrations[4].Part = "head"
	wantTests(t, x, "t1 t2 t4", "t1 t2 t3")
}

func TestQuestionable(t *testing.T) {
	rule := dummy.Rule{Days: 100, Uses: 100}
	for _, x := range []struct {
		calibrations []dummy.Calibration
		questionable string
	}{
		{nil, ""}, {[]dummy.Calibration{good("a", 9)}, ""},
		// It need not have been calibrated before; a test on the day of the calibration comes after it.
		{[]dummy.Calibration{bad("a", 3)}, "t1 t2"}, {[]dummy.Calibration{bad("a", 4)}, "t1 t2 t3"}, {[]dummy.Calibration{bad("a", 1)}, ""},
		{[]dummy.Calibration{good("a", 2), bad("b", 4)}, "t2 t3"}, {[]dummy.Calibration{good("a", 3), bad("b", 3)}, ""},
		{[]dummy.Calibration{bad("a", 2), good("b", 3), bad("c", 9)}, "t1 t3 t4"},
		{[]dummy.Calibration{bad("a", 2), bad("b", 3)}, "t1 t2"},
	} {
		l, e := dummy.Questionable(alone(rule, x.calibrations, 1, 2, 3, 4))
		wantOK(t, fmt.Sprintf("Questionable by %v", x.calibrations), l, e, words(x.questionable))
	}
}

func TestLabsAtTheirLimits(t *testing.T) {
	x := full()
	rests, e := dummy.Rests(x, "t63")
	var wanted []string
	for i := range dummy.MaxParts {
		wanted = append(wanted, fmt.Sprintf("k%d", 48+i))
	}
	wantOK(t, "Rests", rests, e, wanted)
	covered, e := dummy.Covered(x)
	var all []string
	for _, test := range x.Tests {
		all = append(all, test.Name)
	}
	wantOK(t, "Covered", covered, e, all)
	reached, e := dummy.Withdrawn(x, "k63")
	wantOK(t, "Withdrawn", reached, e, all)
	reached, e = dummy.Withdrawn(x, "k47")
	wantOK(t, "Withdrawn of one before the last", reached, e, nil)
	x.Rule.Uses = 64
	wantDue(t, x, api.MaxDay, strings.Join(rowNames(), " "))
	x.Rule.Uses = 65
	wantDue(t, x, api.MaxDay, "")
	wantDue(t, x, api.MaxDay-1, strings.Join(rowNames(), " "))
	x.Rule.Uses = 63
	covered, e = dummy.Covered(x)
	wantOK(t, "Covered of 63 uses", covered, e, all[:63])
}

// rowNames returns the names of the parts of a full laboratory.
func rowNames() []string {
	var l []string
	for _, p := range row(dummy.MaxParts) {
		l = append(l, p.Name)
	}
	return l
}

// someLab returns a laboratory in which names, days and specimens often meet.
func someLab(r *rand.Rand) dummy.Lab {
	x := dummy.Lab{Parts: someParts(r, 4), Rule: dummy.Rule{Days: between(r, 0, 9), Uses: between(r, 1, 5)}}
	specimens := words("s1 s2")
	for _, day := range someDays(r, 8, between(r, 1, 15)) {
		x.Fittings = append(x.Fittings, dummy.Fitting{Day: day, Part: one(r, x.Parts).Name, Specimen: one(r, specimens)})
	}
	for i, day := range someDays(r, 12, 15) {
		p := one(r, x.Parts)
		c := calibration(fmt.Sprintf("k%d", i), p.Name, one(r, specimens), day)
		for _, x := range p.Corridor {
			// Most values are in their intervals.
			c.Values = append(c.Values, between(r, x.Low-r.IntN(2), x.High))
		}
		x.Calibrations = append(x.Calibrations, c)
	}
	for i, day := range someDays(r, 8, 15) {
		u := dummy.Test{Name: fmt.Sprintf("t%d", i), Day: day}
		for _, at := range r.Perm(len(x.Parts))[:between(r, 1, len(x.Parts))] {
			u.Parts = append(u.Parts, x.Parts[at].Name)
		}
		x.Tests = append(x.Tests, u)
	}
	return x
}

// someDays returns up to most days until a last one, which do not go back.
func someDays(r *rand.Rand, most, last int) []int {
	var l []int
	for range r.IntN(most + 1) {
		l = append(l, between(r, 1, last))
	}
	slices.Sort(l)
	return l
}
