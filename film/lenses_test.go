package film_test

import (
	"fmt"
	"math/big"
	"testing"

	"crumple/api"
	"crumple/film"
)

// P5.2 (lenses): both functions with ordinary inputs, at their limits, and with their errors in their order.

// rings returns a lens by the squares and the factors of its rings.
func rings(numbers ...int) []film.Ring {
	var l []film.Ring
	for i := 0; i < len(numbers); i += 2 {
		l = append(l, film.Ring{From: numbers[i], Factor: numbers[i+1]})
	}
	return l
}

func TestCorrected(t *testing.T) {
	lens := rings(0, 1000, 100, 1100)
	for _, x := range []struct {
		l    []film.Ring
		p    api.Point
		x, y api.Interval
	}{
		{lens, at(6, 8), to(6, 7), to(8, 9)}, {lens, at(3, 4), to(3, 3), to(4, 4)}, {lens, at(-6, 8), to(-7, -6), to(8, 9)}, {lens, at(6, -8), to(6, 7), to(-9, -8)}, {lens, at(9, 4), to(9, 9), to(4, 4)}, {lens, at(10, 0), to(11, 11), to(0, 0)}, {lens, at(0, -10), to(0, 0), to(-11, -11)}, {lens, at(0, 0), to(0, 0), to(0, 0)}, {lens, at(7, 8), to(7, 8), to(8, 9)},
		{rings(0, 500), at(3, -3), to(1, 2), to(-2, -1)}, {rings(0, 2000), at(1000, -1000), to(2000, 2000), to(-2000, -2000)}, {rings(0, 501), at(1, -1), to(0, 1), to(-1, 0)}, {rings(0, 1999), at(1, -1), to(1, 2), to(-2, -1)},
		// The square of the farthest point is that of the last ring.
		{rings(0, 1000, film.MaxSquare-1, 700, film.MaxSquare, 900), at(1000, -1000), to(900, 900), to(-900, -900)}, {rings(0, 1000, film.MaxSquare, 900), at(-999, 1000), to(-999, -999), to(1000, 1000)},
		// Just at a ring, and just before it: 25, 26 and 24 are no squares of the point 4, 3 alone.
		{rings(0, 1000, 25, 1200, 26, 1400), at(4, 3), to(4, 5), to(3, 4)}, {rings(0, 1000, 24, 1200, 25, 1500), at(4, 3), to(6, 6), to(4, 5)}, {rings(0, 1000, 26, 2000), at(4, 3), to(4, 4), to(3, 3)}, {rings(0, 600, 1, 700, 2, 800, 3, 900, 4, 1000, 5, 1100, 6, 1200, 7, 1300), at(2, 1), to(2, 3), to(1, 2)}, {rings(0, 600, 1, 700, 2, 800, 3, 900, 4, 1000, 5, 1100, 6, 1200, 7, 1300), at(10, 0), to(13, 13), to(0, 0)},
	} {
		want(t, "CheckLens", film.CheckLens(x.l), api.OK)
		a, b, e := film.Corrected(x.l, x.p)
		wantOK(t, fmt.Sprintf("Corrected of %v by %v", x.p, x.l), pair[api.Interval, api.Interval]{a, b}, e, pair[api.Interval, api.Interval]{x.x, x.y})
	}
}

func TestLensErrors(t *testing.T) {
	for _, b := range badLenses() {
		what := fmt.Sprintf(" of %v", b.x)
		want(t, "CheckLens"+what, film.CheckLens(b.x), b.e)
		for _, p := range []api.Point{at(far[0], 0), at(1, 2)} {
			x, y, e := film.Corrected(b.x, p)
			wantError(t, "Corrected"+what, pair[api.Interval, api.Interval]{x, y}, e, b.e)
		}
	}
	for _, n := range outside(-film.MaxPixel, film.MaxPixel) {
		for _, p := range []api.Point{at(n, 0), at(0, n), at(n, n)} {
			x, y, e := film.Corrected(rings(0, 1000), p)
			wantError(t, fmt.Sprintf("Corrected of %v", p), pair[api.Interval, api.Interval]{x, y}, e, api.ErrRange)
		}
	}
}

func TestCorrectedByTheDefinition(t *testing.T) {
	r := dice(5)
	for range 2000 {
		var l []film.Ring
		from := 0
		for range between(r, 1, film.MaxRings) {
			l = append(l, film.Ring{From: from, Factor: between(r, 500, 2000)})
			from += between(r, 1, 40)
		}
		p := at(between(r, -15, 15), between(r, -15, 15))
		a, b, e := film.Corrected(l, p)
		want(t, "Corrected", e, api.OK)
		i := len(l) - 1
		for l[i].From > p.X*p.X+p.Y*p.Y {
			i--
		}
		for part, in := range map[int]api.Interval{p.X: a, p.Y: b} {
			if p.X == p.Y {
				want(t, "both intervals", a, b)
			}
			exact := big.NewRat(int64(part*l[i].Factor), film.Whole)
			what := fmt.Sprintf("whether %v is the least interval of %v", in, exact)
			want(t, what, inside(exact, in), true)
			want(t, what+", and not less would do", in.High-in.Low, map[bool]int{true: 0, false: 1}[exact.IsInt()])
		}
	}
}
