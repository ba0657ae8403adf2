package restraint_test

import (
	"fmt"
	"testing"

	"crumple/api"
	"crumple/restraint"
)

// P7.2 (sets): cases, and what explains them, with ordinary inputs, at their limits, and with their errors in their order.

func TestCheckCases(t *testing.T) {
	const most = restraint.MaxAnswer
	for _, l := range [][]restraint.Case{
		{late()}, {late(), later()}, many(restraint.MaxCases), {anything("a", restraint.MaxSpeed), anything("A", 1), anything(longest, 1)},
		{{Name: "a", Speed: 1, Answers: intervals(most, most, -most, -most, 0, 0)}},
	} {
		want(t, fmt.Sprintf("CheckCases of %v", l), restraint.CheckCases(l), api.OK)
	}
	for _, b := range badCaseLists() {
		want(t, fmt.Sprintf("CheckCases of %v", b.x), restraint.CheckCases(b.x), b.e)
	}
}

func TestExplainsAndMisfit(t *testing.T) {
	// The answers are 10, 25 and 25.
	of := func(a, b, c, d, e, f int) restraint.Case {
		return restraint.Case{Name: "c", Speed: 10, Answers: intervals(a, b, c, d, e, f)}
	}
	const most = restraint.MaxAnswer
	for _, x := range []struct {
		p      restraint.Set
		c      restraint.Case
		misfit int
	}{
		{set(0, 10, 2), late(), 0}, {set(1, 10, 2), late(), 0}, {set(0, 10, 3), late(), 20}, {set(1, 10, 3), late(), 20}, {set(1, 10, 2), later(), 20}, {set(1, 10, 3), later(), 0},
		{set(1, 10, 2), of(10, 10, 25, 25, 25, 25), 0}, {set(1, 10, 2), of(0, 10, 25, 40, 20, 30), 0},
		// Each end of each interval counts, and all distances together.
		{set(1, 10, 2), of(11, 12, 25, 25, 25, 25), 1}, {set(1, 10, 2), of(0, 9, 25, 25, 25, 25), 1}, {set(1, 10, 2), of(10, 10, 26, 30, 25, 25), 1}, {set(1, 10, 2), of(10, 10, 0, 24, 25, 25), 1}, {set(1, 10, 2), of(10, 10, 25, 25, 26, 26), 1}, {set(1, 10, 2), of(10, 10, 25, 25, -5, 24), 1},
		{set(1, 10, 2), of(12, 12, 20, 20, 33, 40), 2 + 5 + 8}, {set(1, 10, 2), of(-most, -most, -most, -most, -most, -most), 3*most + 60}, {set(1, 10, 2), of(most, most, most, most, most, most), 3*most - 60},
		{set(0, 0, 200), anything("c", 1000), 0},
	} {
		what := fmt.Sprintf(" of %v for %v", x.p, x.c)
		misfit, e := restraint.Misfit(car(), x.p, x.c)
		wantOK(t, "Misfit"+what, misfit, e, x.misfit)
		explains, e := restraint.Explains(car(), x.p, x.c)
		wantOK(t, "Explains"+what, explains, e, x.misfit == 0)
	}
	// The speed is that of the case: at 1 the answers are 8, 3 and 4.
	slow := late()
	slow.Speed = 1
	misfit, e := restraint.Misfit(car(), set(1, 10, 2), slow)
	wantOK(t, "Misfit at another speed", misfit, e, 2+17+21)
}

func TestErrorsOfExplainsAndMisfit(t *testing.T) {
	wantBoth := func(what string, m restraint.Model, p restraint.Set, c restraint.Case, wanted api.Errno) {
		t.Helper()
		explains, e := restraint.Explains(m, p, c)
		wantError(t, "Explains of "+what, explains, e, wanted)
		misfit, e := restraint.Misfit(m, p, c)
		wantError(t, "Misfit of "+what, misfit, e, wanted)
	}
	nameless := anything("", 0)
	for _, b := range badModels() {
		wantBoth(fmt.Sprint(b.x), b.x, set(1, 10, 2), late(), b.e)
		wantBoth(fmt.Sprint(b.x), b.x, set(-1, 10, 2), nameless, b.e)
	}
	for _, p := range badSets() {
		wantBoth(fmt.Sprint(p), car(), p, late(), api.ErrRange)
		wantBoth(fmt.Sprint(p), car(), p, nameless, api.ErrRange)
	}
	for _, b := range badCases() {
		wantBoth(fmt.Sprint(b.x), car(), set(1, 10, 2), b.x, b.e)
	}
}

func TestMisfitsByTheDefinition(t *testing.T) {
	r := dice(3)
	explained := 0
	for range 1000 {
		m, g := someModel(r), someGrid(r)
		for _, c := range someCases(r, m, g) {
			p := one(r, allSets(g))
			what := fmt.Sprintf(" of %v with %v for %v", m, p, c)
			misfit, e := restraint.Misfit(m, p, c)
			wantOK(t, "Misfit"+what, misfit, e, slowMisfit(m, p, c))
			explains, e := restraint.Explains(m, p, c)
			wantOK(t, "Explains"+what, explains, e, slowExplains(m, p, c))
			if explains {
				explained++
			}
		}
	}
	want(t, "whether many cases are explained, and many are not", explained > 500 && explained < 2000, true)
}
