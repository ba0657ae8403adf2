package barrier_test

import (
	"fmt"
	"math/rand/v2"
	"slices"
	"testing"

	"crumple/api"
	"crumple/barrier"
)

// P4.3 (balances): walls, their impulse, peak and centre, and crush: ordinary inputs, limits, and errors in their order.

// centre is the ratios of a centre.
type centre struct{ x, y api.Ratio }

// placed returns a wall without errors, of cells at some places.
func placed(places []api.Point, samples ...[]int) []barrier.Load {
	l := cells(samples...)
	for i, p := range places {
		l[i].At = p
	}
	return l
}

// fullWall returns a wall with as many cells and samples as is permitted, and the greatest numbers.
func fullWall() []barrier.Load {
	l := cells(slices.Repeat([][]int{slices.Repeat([]int{barrier.MaxForce}, barrier.MaxTimes)}, barrier.MaxLoads)...)
	for i := range l {
		l[i].Name = fmt.Sprintf("%s%d", longest[:20], i)
		l[i].At = api.Point{X: barrier.MaxPlace, Y: barrier.MaxPlace}
		l[i].Error = barrier.MaxForce
	}
	return l
}

func TestImpulse(t *testing.T) {
	two := cells([]int{3, -5, 1}, []int{10, 0, 0})
	two[0].Error, two[1].Error = 2, 7
	most := barrier.MaxLoads * barrier.MaxTimes * barrier.MaxForce * 100
	for _, x := range []struct {
		l       []barrier.Load
		impulse api.Interval
	}{
		{wall(40, 90), to(12800, 13200)}, {wall(40, 50), to(8800, 9200)}, {wall(0), to(-100, 100)}, {wall(-100, -100, -100), to(-30300, -29700)},
		{cells([]int{7}), to(700, 700)}, {cells([]int{7, -9}, []int{1, 0}), to(-100, -100)}, {two, to(-1800, 3600)}, {fullWall(), to(0, 2*most)},
	} {
		want(t, "CheckWall", barrier.CheckWall(x.l), api.OK)
		impulse, e := barrier.Impulse(x.l)
		wantOK(t, fmt.Sprintf("Impulse of %v", x.l), impulse, e, x.impulse)
	}
}

func TestPeak(t *testing.T) {
	for _, x := range []struct {
		l         []barrier.Load
		force, at int
	}{
		{wall(40, 90), 90, 1}, {wall(90, 40), 90, 0}, {wall(5), 5, 0}, {wall(1, 3, 2, 3), 3, 1}, {wall(-3, -1, -2, -1), -1, 1}, {wall(0, 0, 0), 0, 0}, {wall(-100, 100), 100, 1},
		{cells([]int{9, 0, 3}, []int{0, 8, 7}), 10, 2}, {cells([]int{9, 0, 3}, []int{0, 9, 6}), 9, 0}, {cells([]int{-9, 5}, []int{8, -9}), -1, 0},
		{fullWall(), barrier.MaxLoads * barrier.MaxForce, 0},
	} {
		force, at, e := barrier.Peak(x.l)
		wantOK(t, fmt.Sprintf("Peak of %v", x.l), pair[int, int]{force, at}, e, pair[int, int]{x.force, x.at})
	}
}

func TestCentre(t *testing.T) {
	corners := []api.Point{{X: 0, Y: 0}, {X: 10, Y: 0}, {X: 0, Y: 30}}
	for _, x := range []struct {
		l     []barrier.Load
		index int
		x, y  api.Ratio
	}{
		{wall(40, 90), 0, ratio(0, 1), ratio(0, 1)}, {wall(40, 90), 1, ratio(0, 1), ratio(0, 1)},
		{placed([]api.Point{{X: 7, Y: 9}}, []int{-5}), 0, ratio(7, 1), ratio(9, 1)},
		{placed(corners, []int{1, 0}, []int{1, 2}, []int{1, 1}), 0, ratio(10, 3), ratio(10, 1)}, {placed(corners, []int{1, 0}, []int{1, 2}, []int{1, 1}), 1, ratio(20, 3), ratio(10, 1)},
		{placed(corners, []int{0}, []int{2}, []int{-1}), 0, ratio(20, 1), ratio(-30, 1)}, {placed(corners, []int{0}, []int{-2}, []int{1}), 0, ratio(20, 1), ratio(-30, 1)}, {placed(corners, []int{-4}, []int{1}, []int{0}), 0, ratio(-10, 3), ratio(0, 1)}, {placed(corners, []int{-1}, []int{-1}, []int{-4}), 0, ratio(5, 3), ratio(20, 1)},
		{fullWall(), barrier.MaxTimes - 1, ratio(barrier.MaxPlace, 1), ratio(barrier.MaxPlace, 1)},
		// The greatest Num: 999999 times 1000, and 999.
		{placed([]api.Point{{X: 999999, Y: 1}, {X: 999}, {Y: 2}}, []int{1000}, []int{1}, []int{-1000}), 0, ratio(api.MaxNumber, 1), ratio(-1000, 1)},
		{placed([]api.Point{{Y: 999999, X: 1}, {Y: 999}, {X: 2}}, []int{-1000}, []int{-1}, []int{1002}), 0, ratio(1004, 1), ratio(-api.MaxNumber, 1)},
	} {
		a, b, e := barrier.Centre(x.l, x.index)
		wantOK(t, fmt.Sprintf("Centre of %v at %d", x.l, x.index), centre{a, b}, e, centre{x.x, x.y})
	}
}

func TestCentreErrors(t *testing.T) {
	far := api.Point{X: barrier.MaxPlace, Y: 1}
	high := api.Point{X: 1, Y: barrier.MaxPlace}
	for _, x := range []struct {
		l []barrier.Load
		e api.Errno
	}{
		{wall(0), api.ErrZero}, {cells([]int{5}, []int{-5}), api.ErrZero}, {placed([]api.Point{far}, []int{0}), api.ErrZero}, {placed([]api.Point{far, {}}, []int{5000}, []int{-5000}), api.ErrZero},
		// 1000 times 1000000 by 1 is above MaxNumber, 999 times 1000000 is not.
		{placed([]api.Point{far, {}}, []int{1000}, []int{-999}), api.ErrLarge}, {placed([]api.Point{far, {}}, []int{-1000}, []int{999}), api.ErrLarge}, {placed([]api.Point{far, {}}, []int{-1000}, []int{1001}), api.ErrLarge}, {placed([]api.Point{high, {}}, []int{1000}, []int{-999}), api.ErrLarge}, {placed([]api.Point{high, {}}, []int{-1000}, []int{1001}), api.ErrLarge},
		{placed([]api.Point{far, {}}, []int{999}, []int{-998}), api.OK}, {placed([]api.Point{high, {}}, []int{999}, []int{-998}), api.OK}, {placed([]api.Point{high, {}}, []int{-999}, []int{1000}), api.OK},
		{placed([]api.Point{{X: 999999, Y: 1}, {X: 1000}, {Y: 2}}, []int{1000}, []int{1}, []int{-1000}), api.ErrLarge}, {placed([]api.Point{{Y: 999999, X: 1}, {Y: 1000}, {X: 2}}, []int{-1000}, []int{-1}, []int{1002}), api.ErrLarge},
		// In lowest terms the Num is small enough again.
		{placed([]api.Point{far, {}}, []int{1000}, []int{-998}), api.OK}, {placed([]api.Point{far, {}}, []int{2001}, []int{-2000}), api.ErrLarge},
	} {
		a, b, e := barrier.Centre(x.l, 0)
		if x.e == api.OK {
			want(t, fmt.Sprintf("Centre of %v", x.l), e, api.OK)
			continue
		}
		wantError(t, fmt.Sprintf("Centre of %v", x.l), centre{a, b}, e, x.e)
	}
	for _, index := range outside(0, 1) {
		a, b, e := barrier.Centre(wall(0, 0), index)
		wantError(t, fmt.Sprintf("Centre at %d", index), centre{a, b}, e, api.ErrUnknown)
	}
}

func TestWallErrors(t *testing.T) {
	for _, b := range badWalls() {
		what := fmt.Sprintf(" of %v", b.x)
		want(t, "CheckWall"+what, barrier.CheckWall(b.x), b.e)
		impulse, e := barrier.Impulse(b.x)
		wantError(t, "Impulse"+what, impulse, e, b.e)
		force, at, e := barrier.Peak(b.x)
		wantError(t, "Peak"+what, pair[int, int]{force, at}, e, b.e)
		for _, index := range []int{-1, 0} {
			x, y, e := barrier.Centre(b.x, index)
			wantError(t, "Centre"+what, centre{x, y}, e, b.e)
		}
		is, e := barrier.Balanced(crash(), b.x)
		wantError(t, "Balanced"+what, is, e, b.e)
		names, e := barrier.Explaining(crash(), b.x)
		wantError(t, "Explaining"+what, names, e, b.e)
	}
	// Names are told apart by the letter; places, full scales and errors may be the same.
	l := cells([]int{1}, []int{2})
	l[0].Name, l[1].Name, l[1].At = "a", "A", l[0].At
	want(t, "CheckWall", barrier.CheckWall(l), api.OK)
}

func TestCrush(t *testing.T) {
	forces, ways := slices.Repeat([]int{barrier.MaxForce}, barrier.MaxTimes), slices.Repeat([]int{barrier.MaxPlace}, barrier.MaxTimes)
	ways[0] = 0
	for _, x := range []struct {
		forces, ways []int
		crush        int
	}{
		{[]int{10, 30, 20}, []int{0, 2, 5}, 230}, {[]int{7}, []int{9}, 0}, {[]int{7, 8}, []int{3, 3}, 0}, {[]int{7, 8, 9}, []int{1, 1, 2}, 17}, {[]int{-7, 3, -9}, []int{0, 5, 6}, -26}, {[]int{-7, 7}, []int{0, 99}, 0}, {[]int{4, 0}, []int{10, 25}, 60}, {[]int{0, 4}, []int{10, 25}, 60},
		{forces, ways, 2 * barrier.MaxForce * barrier.MaxPlace}, {[]int{-barrier.MaxForce, -barrier.MaxForce}, []int{0, barrier.MaxPlace}, -2 * barrier.MaxForce * barrier.MaxPlace},
	} {
		crush, e := barrier.Crush(x.forces, x.ways)
		wantOK(t, fmt.Sprintf("Crush of %v over %v", x.forces, x.ways), crush, e, x.crush)
	}
}

func TestCrushErrors(t *testing.T) {
	many := make([]int, barrier.MaxTimes+1)
	bad := []struct {
		forces, ways []int
		e            api.Errno
	}{
		{nil, nil, api.ErrEmpty}, {[]int{}, []int{-1}, api.ErrEmpty}, {many, nil, api.ErrMany}, {slices.Repeat([]int{far[0]}, 99), many, api.ErrMany},
		{[]int{1, 2}, nil, api.ErrShape}, {[]int{1, 2}, []int{-1}, api.ErrShape}, {[]int{1, 2}, []int{3, 2, 1}, api.ErrShape}, {[]int{1}, many, api.ErrShape},
		{[]int{1, 2}, []int{3, 2}, api.ErrOrder}, {[]int{1, 2, 3}, []int{0, 5, 4}, api.ErrOrder}, {[]int{1, 2, 3}, []int{5, 4, 6}, api.ErrOrder}, {[]int{1, 2, 3}, []int{5, 6, 0}, api.ErrOrder},
		// All ways are in their range before their order counts.
		{[]int{1, 2, 3}, []int{5, 4, barrier.MaxPlace + 1}, api.ErrRange}, {[]int{1, 2, 3}, []int{5, 4, -1}, api.ErrRange},
	}
	for _, n := range outside(-barrier.MaxForce, barrier.MaxForce) {
		bad = append(bad, struct {
			forces, ways []int
			e            api.Errno
		}{[]int{1, n}, nil, api.ErrRange})
	}
	for _, n := range outside(0, barrier.MaxPlace) {
		bad = append(bad, struct {
			forces, ways []int
			e            api.Errno
		}{[]int{1, 2, 3}, []int{0, n, 1}, api.ErrRange})
	}
	for _, b := range bad {
		crush, e := barrier.Crush(b.forces, b.ways)
		wantError(t, fmt.Sprintf("Crush of %v over %v", b.forces, b.ways), crush, e, b.e)
	}
}

// someWall returns a small wall.
func someWall(r *rand.Rand) []barrier.Load {
	var l []barrier.Load
	times := between(r, 1, 5)
	for i := range between(r, 1, 5) {
		c := barrier.Load{Name: fmt.Sprintf("c%d", i), At: api.Point{X: r.IntN(100), Y: r.IntN(100)}, Scale: between(r, 1, 9), Error: r.IntN(3)}
		for range times {
			c.Samples = append(c.Samples, between(r, -c.Scale, c.Scale))
		}
		l = append(l, c)
	}
	return l
}

func TestWallsByTheirDefinitions(t *testing.T) {
	r := dice(6)
	for range 1000 {
		l := someWall(r)
		greatest, first := -1000, 0
		for i := range l[0].Samples {
			force, x, y := 0, 0, 0
			for _, c := range l {
				force += c.Samples[i]
				x += c.At.X * c.Samples[i]
				y += c.At.Y * c.Samples[i]
			}
			if force > greatest {
				greatest, first = force, i
			}
			a, b, e := barrier.Centre(l, i)
			want(t, "whether there is no centre", e == api.ErrZero, force == 0)
			want(t, "the products of the centre", [2]int{a.Num * force, b.Num * force}, [2]int{x * a.Den, y * b.Den})
		}
		force, at, e := barrier.Peak(l)
		wantOK(t, "Peak", pair[int, int]{force, at}, e, pair[int, int]{greatest, first})
	}
}
