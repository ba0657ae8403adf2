package pulse_test

import (
	"fmt"
	"slices"
	"testing"

	"crumple/api"
	"crumple/pulse"
)

// P8.3 (packs and runs): packs, with ordinary inputs, at their limits, and with their errors in their order; repeats_test.go has the runs.

// greatest returns as many packs as are permitted, with the greatest numbers.
func greatest() []pulse.Pack {
	l := many(pulse.MaxPacks)
	for i := range l {
		l[i].Force, l[i].Time, l[i].Cost = pulse.MaxForce, pulse.MaxTicks, pulse.MaxCost
	}
	return l
}

func TestCheckPacks(t *testing.T) {
	for _, l := range [][]pulse.Pack{
		nil, {}, packs(), many(pulse.MaxPacks), greatest(), {{Name: "a", Time: 1}, {Name: "A", Time: 1}, {Name: longest, Time: 1}},
	} {
		want(t, fmt.Sprintf("CheckPacks of %v", l), pulse.CheckPacks(l), api.OK)
	}
	for _, b := range badPacks() {
		want(t, fmt.Sprintf("CheckPacks of %.99v", b.x), pulse.CheckPacks(b.x), b.e)
	}
}

func TestFits(t *testing.T) {
	for _, x := range []struct {
		l      []pulse.Pack
		set    []int
		target api.Interval
		fits   bool
	}{
		{packs(), []int{1}, to(60, 70), true}, {packs(), []int{0, 2}, to(60, 70), true}, {packs(), []int{0}, to(60, 70), false}, {packs(), []int{1, 2}, to(60, 70), false}, {packs(), []int{0, 1, 2}, to(60, 70), false},
		{packs(), []int{1}, to(60, 60), true}, {packs(), []int{1}, to(61, 61), false}, {packs(), []int{1}, to(59, 59), false}, {packs(), []int{0, 1, 2}, to(130, 130), true}, {packs(), []int{0, 2}, to(0, 69), false}, {packs(), []int{0, 2}, to(71, pulse.MaxImpulse), false},
		{packs(), nil, to(0, 0), true}, {packs(), nil, to(1, 70), false}, {nil, nil, to(0, pulse.MaxImpulse), true}, {nil, []int{}, to(1, 1), false}, {greatest(), []int{0, 1, 2, 3, 4, 5, 6, 7}, to(5120000, 5120000), true}, {greatest(), []int{0, 1, 2, 3, 4, 5, 7}, to(5120000, 5120000), false},
	} {
		fits, e := pulse.Fits(x.l, x.set, x.target)
		wantOK(t, fmt.Sprintf("Fits of %v of %v for %v", x.set, x.l, x.target), fits, e, x.fits)
	}
}

func TestCheapest(t *testing.T) {
	// The impulses are 1, 1, 2, 1 and 3.
	costs := func(numbers ...int) []pulse.Pack {
		l := many(5)
		for i, force := range []int{1, 1, 2, 1, 3} {
			l[i].Force, l[i].Cost = force, numbers[i]
		}
		return l
	}
	for _, x := range []struct {
		l      []pulse.Pack
		target api.Interval
		set    []int
		cost   int
	}{
		{packs(), to(60, 70), []int{0, 2}, 7}, {packs(), to(60, 69), []int{1}, 9}, {packs(), to(61, 70), []int{0, 2}, 7}, {packs(), to(101, 130), []int{0, 1, 2}, 16}, {packs(), to(1, pulse.MaxImpulse), []int{2}, 2}, {packs(), to(31, 100), []int{0}, 5},
		{packs(), to(0, 70), nil, 0}, {packs(), to(0, 0), nil, 0}, {nil, to(0, 0), nil, 0}, {nil, to(0, pulse.MaxImpulse), nil, 0}, {many(8), to(171, 171), []int{0, 1, 3, 5, 7}, 35}, {greatest(), to(5120000, pulse.MaxImpulse), []int{0, 1, 2, 3, 4, 5, 6, 7}, 8 * pulse.MaxCost}, {greatest(), to(1, 639999+640000), []int{0}, pulse.MaxCost},
		// The cost comes before the number of packs, and that before their order.
		{costs(1, 1, 3, 1, 4), to(3, 3), []int{0, 1, 3}, 3}, {costs(1, 1, 2, 1, 3), to(3, 3), []int{4}, 3}, {costs(1, 1, 2, 1, 4), to(3, 3), []int{0, 2}, 3}, {costs(2, 1, 2, 1, 4), to(3, 3), []int{1, 2}, 3}, {costs(3, 3, 2, 1, 4), to(3, 3), []int{2, 3}, 3}, {costs(0, 0, 0, 0, 0), to(2, 5), []int{2}, 0}, {costs(0, 0, 0, 0, 0), to(1, 1), []int{0}, 0}, {costs(0, 0, 0, 0, 0), to(0, 8), nil, 0}, {costs(0, 0, 0, 0, 0), to(4, 4), []int{0, 4}, 0}, {costs(1, 0, 0, 0, 0), to(4, 4), []int{1, 4}, 0}, {costs(0, 0, 0, 0, 0), to(5, 5), []int{2, 4}, 0}, {costs(5, 0, 5, 0, 0), to(4, 4), []int{1, 4}, 0}, {costs(0, 0, 0, 0, 9), to(4, 4), []int{0, 1, 2}, 0},
	} {
		set, cost, e := pulse.Cheapest(x.l, x.target)
		wantOK(t, fmt.Sprintf("Cheapest of %v for %v", x.l, x.target), priced{set, cost}, e, priced{x.set, x.cost})
	}
	for _, x := range []struct {
		l      []pulse.Pack
		target api.Interval
	}{{packs(), to(101, 105)}, {packs(), to(1, 29)}, {packs(), to(131, pulse.MaxImpulse)}, {nil, to(1, pulse.MaxImpulse)}, {many(8), to(256, 999)}, {greatest(), to(5120001, pulse.MaxImpulse)}} {
		set, cost, e := pulse.Cheapest(x.l, x.target)
		wantError(t, fmt.Sprintf("Cheapest of %v for %v", x.l, x.target), priced{set, cost}, e, api.ErrInfeasible)
	}
}

func TestBound(t *testing.T) {
	two := packs()[:2]
	two[0].Cost, two[1].Cost = 50, 90
	const most = pulse.MaxPrice
	for _, x := range []struct {
		l      []pulse.Pack
		target api.Interval
		price  int
		bound  int
	}{
		{packs(), to(60, 70), 0, 0}, {two, to(100, 100), 1, 100}, {two, to(100, 100), 2, 140}, {two, to(100, 100), 3, 300 - 70 - 90}, {two, to(100, 100), -1, -100},
		// The price is paid for Low if it is at least 0, for High otherwise.
		{two, to(60, 70), 1, 60}, {two, to(60, 70), 2, 120 - 30 - 30}, {two, to(60, 70), -1, -70}, {nil, to(60, 70), 3, 180}, {nil, to(60, 70), -3, -210}, {nil, to(0, 70), most, 0}, {two, to(0, 70), 2, -60}, {two, to(0, 0), -most, 0},
		{greatest(), to(0, pulse.MaxImpulse), most, 8*pulse.MaxCost - 5120000*most}, {greatest(), to(pulse.MaxImpulse, pulse.MaxImpulse), -most, -pulse.MaxImpulse * most}, {greatest(), to(pulse.MaxImpulse, pulse.MaxImpulse), 1, pulse.MaxImpulse},
	} {
		bound, e := pulse.Bound(x.l, x.target, x.price)
		wantOK(t, fmt.Sprintf("Bound of %d for %v with %v", x.price, x.target, x.l), bound, e, x.bound)
	}
}

// wantPackErrors checks the error that all functions of packs return.
func wantPackErrors(t *testing.T, what string, l []pulse.Pack, target api.Interval, wanted api.Errno) {
	t.Helper()
	for _, set := range [][]int{nil, {0}} {
		if len(l) > 0 || set == nil {
			fits, e := pulse.Fits(l, set, target)
			wantError(t, "Fits of "+what, fits, e, wanted)
		}
	}
	set, cost, e := pulse.Cheapest(l, target)
	wantError(t, "Cheapest of "+what, priced{set, cost}, e, wanted)
	for _, price := range []int{1, -1001} {
		bound, e := pulse.Bound(l, target, price)
		wantError(t, "Bound of "+what, bound, e, wanted)
	}
}

func TestErrorsOfPacks(t *testing.T) {
	for _, b := range badPacks() {
		what := fmt.Sprintf("%.99v", b.x)
		wantPackErrors(t, what, b.x, to(1, 5), b.e)
		wantPackErrors(t, what, b.x, to(5, 1), b.e)
		fits, e := pulse.Fits(b.x, []int{-1}, to(5, 1))
		wantError(t, "Fits of "+what, fits, e, b.e)
	}
	for _, b := range badSets() {
		for _, target := range []api.Interval{to(1, 5), to(5, 1), to(-1, 0)} {
			fits, e := pulse.Fits(packs(), b.x, target)
			wantError(t, fmt.Sprintf("Fits of %.99v", b.x), fits, e, b.e)
		}
	}
	fits, e := pulse.Fits(nil, []int{0}, to(0, 0))
	wantError(t, "Fits of a set of no packs", fits, e, api.ErrUnknown)
	for _, b := range badIntervals(0, pulse.MaxImpulse) {
		what := fmt.Sprint(b.x)
		wantPackErrors(t, what, packs(), b.x, b.e)
		wantPackErrors(t, what, nil, b.x, b.e)
	}
	for _, price := range outside(-pulse.MaxPrice, pulse.MaxPrice) {
		bound, e := pulse.Bound(packs(), to(1, 5), price)
		wantError(t, fmt.Sprintf("Bound of %d", price), bound, e, api.ErrRange)
	}
}

func TestPacksByTheDefinition(t *testing.T) {
	r := dice(4)
	found, lost, several := 0, 0, 0
	for range 2000 {
		l := somePacks(r)
		target, price := someTarget(r, l), between(r, -pulse.MaxPrice, pulse.MaxPrice)
		what := fmt.Sprintf(" of %v for %v", l, target)
		wanted, is := slowCheapest(l, target)
		set, cost, e := pulse.Cheapest(l, target)
		if is {
			wantOK(t, "Cheapest"+what, priced{set, cost}, e, wanted)
			found++
		} else {
			wantError(t, "Cheapest"+what, priced{set, cost}, e, api.ErrInfeasible)
			lost++
		}
		for _, set := range slowSets(len(l)) {
			impulse, c := slowSums(l, set)
			inside := target.Low <= impulse && impulse <= target.High
			fits, e := pulse.Fits(l, set, target)
			wantOK(t, fmt.Sprintf("Fits of %v", set)+what, fits, e, inside)
			if is && inside && c == cost && !slices.Equal(set, wanted.first) {
				several++
			}
		}
		for _, price := range []int{price, one(r, []int{-2, -1, 0, 1, 2})} {
			bound, e := pulse.Bound(l, target, price)
			wantOK(t, fmt.Sprintf("Bound of %d", price)+what, bound, e, slowBound(l, target, price))
		}
	}
	want(t, "whether some are found, some are not, and several cost the same", min(found, lost, several) > 200, true)
}
