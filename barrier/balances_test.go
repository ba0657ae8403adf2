package barrier_test

import (
	"fmt"
	"slices"
	"testing"

	"crumple/api"
	"crumple/barrier"
)

// P4.3 (balances): parts and their momentum, and the balance with a wall: ordinary inputs, limits, and errors in their order.

func part(name string, mass, before, after api.Interval) barrier.Part {
	return barrier.Part{Name: name, Mass: mass, Before: before, After: after}
}

// heavy returns n parts with the greatest masses and speeds.
func heavy(n int) []barrier.Part {
	var l []barrier.Part
	for i := range n {
		l = append(l, part(fmt.Sprintf("p%d", i), to(1, barrier.MaxMass), to(-barrier.MaxSpeed, barrier.MaxSpeed), to(barrier.MaxSpeed, barrier.MaxSpeed)))
	}
	return l
}

func TestMomentum(t *testing.T) {
	still := part("still", to(1, barrier.MaxMass), to(0, 0), to(0, 0))
	most := barrier.MaxParts * barrier.MaxMass * barrier.MaxSpeed
	for _, x := range []struct {
		l                     []barrier.Part
		before, after, change api.Interval
	}{
		{crash(), to(10000, 11110), to(-2020, -1000), to(-13130, -11000)},
		{[]barrier.Part{part("a", to(2, 3), to(-5, 7), to(-7, -5))}, to(-15, 21), to(-21, -10), to(-42, 5)},
		{[]barrier.Part{part("a", to(2, 3), to(5, 7), to(-7, 5))}, to(10, 21), to(-21, 15), to(-42, 5)},
		{[]barrier.Part{part("a", to(2, 3), to(0, 7), to(-7, 0))}, to(0, 21), to(-21, 0), to(-42, 0)},
		{[]barrier.Part{part("a", to(4, 4), to(3, 3), to(3, 3))}, to(12, 12), to(12, 12), to(0, 0)},
		{[]barrier.Part{still}, to(0, 0), to(0, 0), to(0, 0)},
		{[]barrier.Part{part("a", to(1, 2), to(0, 0), to(3, 4))}, to(0, 0), to(3, 8), to(3, 8)}, {[]barrier.Part{part("a", to(1, 2), to(3, 4), to(0, 0))}, to(3, 8), to(0, 0), to(-8, -3)},
		{[]barrier.Part{part("a", to(1, 2), to(3, 4), to(-1, 0)), still, part("b", to(10, 10), to(-1, 1), to(2, 2))}, to(-7, 18), to(18, 20), to(0, 27)},
		{heavy(barrier.MaxParts), to(-most, most), to(8*barrier.MaxSpeed, most), to(8*barrier.MaxSpeed-most, 2*most)},
	} {
		want(t, "CheckParts", barrier.CheckParts(x.l), api.OK)
		before, after, e := barrier.Momentum(x.l)
		wantOK(t, fmt.Sprintf("Momentum before of %v", x.l), before, e, x.before)
		wantOK(t, fmt.Sprintf("Momentum after of %v", x.l), after, e, x.after)
		change, e := barrier.Change(x.l)
		wantOK(t, fmt.Sprintf("Change of %v", x.l), change, e, x.change)
	}
}

func TestMomentumByItsDefinition(t *testing.T) {
	r := dice(4)
	for range 1000 {
		p := part("a", some(r, 1, 4), some(r, -3, 3), some(r, -3, 3))
		before, after, e := barrier.Momentum([]barrier.Part{p})
		want(t, "Momentum", e, api.OK)
		for _, x := range []pair[api.Interval, api.Interval]{{p.Before, before}, {p.After, after}} {
			var products []int
			for mass := p.Mass.Low; mass <= p.Mass.High; mass++ {
				for speed := x.first.Low; speed <= x.first.High; speed++ {
					products = append(products, mass*speed)
				}
			}
			want(t, fmt.Sprintf("Momentum of %v", p), x.second, to(slices.Min(products), slices.Max(products)))
		}
	}
}

func TestPartErrors(t *testing.T) {
	for _, b := range badParts() {
		what := fmt.Sprintf(" of %v", b.x)
		want(t, "CheckParts"+what, barrier.CheckParts(b.x), b.e)
		before, after, e := barrier.Momentum(b.x)
		wantError(t, "Momentum"+what, pair[api.Interval, api.Interval]{before, after}, e, b.e)
		change, e := barrier.Change(b.x)
		wantError(t, "Change"+what, change, e, b.e)
		for _, wall := range [][]barrier.Load{nil, wall(40, 90)} {
			is, e := barrier.Balanced(b.x, wall)
			wantError(t, "Balanced"+what, is, e, b.e)
			names, e := barrier.Explaining(b.x, wall)
			wantError(t, "Explaining"+what, names, e, b.e)
		}
	}
}

// hit returns a part of one mass whose momentum changes by an interval of numbers.
func hit(change api.Interval) []barrier.Part {
	return []barrier.Part{part("a", to(1, 1), to(0, 0), change)}
}

func TestBalanced(t *testing.T) {
	// The impulse of this wall is 12800 to 13200.
	w := wall(40, 90)
	for change, balanced := range map[api.Interval]bool{
		to(-13000, -13000): true, to(-12800, -12800): true, to(-13200, -13200): true, to(-13201, -13200): true, to(-12800, -12799): true, to(-20000, 0): true, to(-20000, 20000): true, to(-12900, -12850): true,
		to(-12799, -12799): false, to(-13201, -13201): false, to(-12799, 0): false, to(-50000, -13201): false, to(12800, 13200): false, to(0, 0): false, to(0, 50000): false,
	} {
		got, e := barrier.Balanced(hit(change), w)
		wantOK(t, fmt.Sprintf("Balanced of the change %v", change), got, e, balanced)
	}
	for _, x := range []struct {
		parts    []barrier.Part
		wall     []barrier.Load
		balanced bool
	}{
		{crash(), wall(40, 90), true}, {crash(), wall(40, 50), false}, {crash(), wall(-40, -90), false},
		// The change is from -13130 to -11000, the error of 2 samples 200.
		{crash(), wall(50, 58), true}, {crash(), wall(50, 57), false}, {crash(), wall(33, 100), true}, {crash(), wall(34, 100), false},
		{hit(to(0, 0)), cells([]int{0}), true}, {hit(to(-100, -100)), cells([]int{1}), true}, {hit(to(-100, -100)), cells([]int{2}, []int{-1}), true}, {hit(to(100, 100)), cells([]int{2}, []int{-3}), true}, {hit(to(100, 100)), cells([]int{1}), false},
		{hit(to(-199, -101)), cells([]int{1}), false}, {hit(to(-199, -101)), cells([]int{2}), false}, {hit(to(-300, -300)), cells([]int{1, 2}), true},
	} {
		got, e := barrier.Balanced(x.parts, x.wall)
		wantOK(t, fmt.Sprintf("Balanced of %v and %v", x.parts, x.wall), got, e, x.balanced)
	}
}

func TestExplaining(t *testing.T) {
	weak := wall(40, 50)
	weak[0].Scale = 50
	just := wall(40, 50)
	just[0].Scale = 55
	three := cells([]int{10, 0}, []int{0, 10}, []int{5, 5})
	for i, scale := range []int{10, 20, 30} {
		three[i].Scale = scale
	}
	wide := cells([]int{0}, []int{0})
	wide[0].Scale, wide[1].Scale, wide[1].Error = 5, 3, 2
	for _, x := range []struct {
		parts []barrier.Part
		wall  []barrier.Load
		names string
	}{
		{crash(), wall(40, 50), "w"}, {crash(), weak, ""}, {crash(), just, "w"},
		// The cells have the impulses 1000 each, and could have up to 2000, 4000 and 6000, with both signs.
		{hit(to(-3001, -3001)), three, "c0 c1 c2"}, {hit(to(-4000, -4000)), three, "c0 c1 c2"}, {hit(to(-4001, -4001)), three, "c1 c2"}, {hit(to(-6000, -6000)), three, "c1 c2"}, {hit(to(-6001, -6001)), three, "c2"}, {hit(to(-8000, -8000)), three, "c2"}, {hit(to(-8001, -8001)), three, ""},
		{hit(to(0, 0)), three, "c0 c1 c2"}, {hit(to(1, 1)), three, "c1 c2"}, {hit(to(2000, 2000)), three, "c1 c2"}, {hit(to(2001, 2001)), three, "c2"}, {hit(to(4000, 4001)), three, "c2"}, {hit(to(4001, 4001)), three, ""}, {hit(to(-2999, -2001)), three, "c0 c1 c2"},
		// What a cell could have measured has no error, but that of the others counts.
		{hit(to(-700, -700)), wide, "c0"}, {hit(to(-701, -701)), wide, ""}, {hit(to(-300, -300)), wide, "c0 c1"}, {hit(to(-301, -301)), wide, "c0"}, {hit(to(700, 900)), wide, "c0"},
	} {
		names, e := barrier.Explaining(x.parts, x.wall)
		wantOK(t, fmt.Sprintf("Explaining of %v and %v", x.parts, x.wall), names, e, words(x.names))
	}
	for _, x := range []pair[[]barrier.Part, []barrier.Load]{{crash(), wall(40, 90)}, {hit(to(0, 0)), cells([]int{0})}, {hit(to(-3000, 0)), three}} {
		names, e := barrier.Explaining(x.first, x.second)
		wantError(t, "Explaining of a test in balance", names, e, api.ErrRule)
	}
}

// meets reports whether any integer of the opposite of a change is from low to high, by trying all.
func meets(change api.Interval, low, high int) bool {
	for x := change.Low; x <= change.High; x++ {
		if -x >= low && -x <= high {
			return true
		}
	}
	return false
}

func TestBalancesByTheirDefinitions(t *testing.T) {
	r := dice(5)
	explained, balanced := 0, 0
	for range 2000 {
		change := some(r, -1500, 1500)
		var l []barrier.Load
		low, high := 0, 0
		times := between(r, 1, 3)
		for i := range between(r, 1, 4) {
			c := barrier.Load{Name: fmt.Sprintf("c%d", i), Scale: between(r, 1, 4), Error: r.IntN(2)}
			for range times {
				c.Samples = append(c.Samples, between(r, -c.Scale, c.Scale))
			}
			for _, x := range c.Samples {
				low += (x - c.Error) * 100
				high += (x + c.Error) * 100
			}
			l = append(l, c)
		}
		is, e := barrier.Balanced(hit(change), l)
		wantOK(t, "Balanced", is, e, meets(change, low, high))
		if is {
			balanced++
			continue
		}
		var wanted []string
		for _, c := range l {
			most := 100 * c.Scale * times
			lowest, highest := low-most, high+most
			for _, x := range c.Samples {
				lowest -= (x - c.Error) * 100
				highest -= (x + c.Error) * 100
			}
			if meets(change, lowest, highest) {
				wanted = append(wanted, c.Name)
			}
		}
		names, e := barrier.Explaining(hit(change), l)
		wantOK(t, fmt.Sprintf("Explaining of %v", l), names, e, wanted)
		explained += len(names)
	}
	want(t, "whether tests of both kinds were there", balanced > 300 && explained > 300, true)
}
