package restraint_test

import (
	"math/rand/v2"
	"testing"

	"crumple/api"
	"crumple/restraint"
)

// Rules that hold everywhere: arguments stay as they are, results share no memory, and no argument makes a function panic.

func TestArgumentsStayAsTheyAre(t *testing.T) {
	m, g := car(), grid{{0, 1, 7}, {10}, {2, 3}}
	l := []restraint.Case{late(), slow(), at1()}
	for range 2 {
		restraint.CheckSpring(m.Front)
		restraint.Force(m.Front, 5)
		restraint.CheckModel(m)
		run, e := restraint.Run(m, set(1, 10, 2), 10)
		want(t, "Run", e, api.OK)
		clear(run)
		restraint.Answers(m, set(1, 10, 2), 10)
		restraint.CheckGrid(g)
		sets, e := restraint.Sets(g)
		wantOK(t, "Sets", sets, e, allSets(g))
		clear(sets)
		restraint.CheckCases(l)
		remaining, e := restraint.Remaining(m, g, l)
		wantOK(t, "Remaining", remaining, e, []restraint.Set{{1, 10, 2}})
		clear(remaining)
		// With a case that all sets explain, and with one that few explain, no list is that of the grid.
		for _, c := range []restraint.Case{slow(), at1()} {
			values, e := restraint.Values(m, g, []restraint.Case{c})
			want(t, "Values", e, api.OK)
			for i, x := range values {
				clear(x)
				values[i] = append(x, 77)
			}
		}
		conflicts, e := restraint.Conflicts(m, g, append(l, never()))
		wantOK(t, "Conflicts", conflicts, e, [][2]int{{0, 3}, {1, 3}, {2, 3}, {3, 3}})
		clear(conflicts)
		restraint.Predicted(m, g, l, 10)
		restraint.Best(m, g, l)
		restraint.Second(m, g, l)
		for i := range l {
			restraint.Foretold(m, g, l, i)
		}
		restraint.Print(m)
		want(t, "the model", m, car())
		want(t, "the grid", g, grid{{0, 1, 7}, {10}, {2, 3}})
		want(t, "the cases", l, []restraint.Case{late(), slow(), at1()})
	}
	first, _, e := restraint.Parse(carText)
	want(t, "Parse", e, api.OK)
	clear(first.Front)
	first.Front = append(first.Front, api.Point{X: 77})
	want(t, "the other springs", []restraint.Spring{first.Belt, first.Bag}, []restraint.Spring{car().Belt, car().Bag})
	again, _, e := restraint.Parse(carText)
	wantOK(t, "Parse again", again, e, car())
}

// anyNumbers returns numbers that are hardly ever all in their ranges.
func anyNumbers(r *rand.Rand) func() int {
	numbers := append([]int{0, 1, 1, 2, 3, 5, -1, 8, 200, 1000, 100000, 1000000, restraint.MaxAnswer}, far...)
	most := between(r, 4, len(numbers))
	return func() int { return one(r, numbers[:most]) }
}

func TestNothingPanics(t *testing.T) {
	r := dice(19)
	for range 5000 {
		number := anyNumbers(r)
		model, g, p := restraint.Model{Car: number(), Occupant: number(), Gap: number(), Steps: number()}, grid{}, set(number(), number(), number())
		for _, s := range []*restraint.Spring{&model.Front, &model.Belt, &model.Bag} {
			for range r.IntN(4) {
				*s = append(*s, api.Point{X: number(), Y: number()})
			}
		}
		for i := range g {
			for range r.IntN(4) {
				g[i] = append(g[i], number())
			}
		}
		var l []restraint.Case
		for range r.IntN(4) {
			l = append(l, restraint.Case{Name: one(r, []string{"", "a", "b", "c", "-"}), Speed: number(), Answers: intervals(number(), number(), number(), number(), number(), number())})
		}
		c := append(l, restraint.Case{})[0]
		restraint.CheckSpring(model.Front)
		restraint.CheckCases(l)
		restraint.CheckGrid(g)
		restraint.CheckModel(model)
		restraint.CheckSet(p)
		restraint.Force(model.Front, number())
		restraint.Sets(g)
		// Each argument that is wrong comes with others that are right, too.
		for _, m := range []restraint.Model{model, car()} {
			restraint.Run(m, p, number())
			restraint.Answers(m, p, number())
			restraint.Explains(m, p, c)
			restraint.Misfit(m, p, c)
			restraint.Print(m)
			for _, g := range []grid{g, four()} {
				for _, l := range [][]restraint.Case{l, {late()}, {never(), slow()}} {
					restraint.Remaining(m, g, l)
					restraint.Values(m, g, l)
					restraint.Conflicts(m, g, l)
					restraint.Predicted(m, g, l, number())
					restraint.Best(m, g, l)
					restraint.Second(m, g, l)
					restraint.Foretold(m, g, l, number())
				}
			}
		}
	}
}

func TestNoStringPanics(t *testing.T) {
	r := dice(20)
	bytes := []byte("mbfc019 -\n\x00")
	for range 5000 {
		s := []byte(carText)
		for range between(r, 0, 5) {
			s[r.IntN(len(s))] = one(r, bytes)
		}
		s = s[:between(r, 0, len(s))]
		m, i, e := restraint.Parse(string(s))
		if e == api.OK {
			again, e := restraint.Print(m)
			wantOK(t, "Print", again, e, string(s))
		} else {
			wantError(t, "Parse", m, e, e)
		}
		want(t, "whether the index is that of a line", i >= 0 && i <= 6, true)
	}
}
