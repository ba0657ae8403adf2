package film_test

import (
	"fmt"
	"math/big"
	"math/rand/v2"
	"slices"
	"testing"

	"crumple/api"
	"crumple/film"
)

// P5.3 (space): each function with ordinary inputs, at its limits, and with its errors in their order.

// determinant returns the determinant of a matrix.
func determinant(t film.Turn) int {
	sum := 0
	for i := range 3 {
		j, k := (i+1)%3, (i+2)%3
		sum += t[0][i] * (t[1][j]*t[2][k] - t[1][k]*t[2][j])
	}
	return sum
}

// isTurn reports whether a matrix is a turn, by the definition.
func isTurn(t film.Turn) bool {
	for i := range 3 {
		row, column := 0, 0
		for j := range 3 {
			row += t[i][j] * t[i][j]
			column += t[j][i] * t[j][i]
		}
		if row != 1 || column != 1 {
			return false
		}
	}
	return determinant(t) == 1
}

// numbersOf returns the numbers of a matrix, row by row.
func numbersOf(t film.Turn) []int { return slices.Concat(t[0][:], t[1][:], t[2][:]) }

// matrices returns all matrices of -1, 0 and 1, the greatest first.
func matrices() []film.Turn {
	var l []film.Turn
	for n := range 19683 {
		var t film.Turn
		for i := 8; i >= 0; i-- {
			t[i/3][i%3] = 1 - n%3
			n /= 3
		}
		l = append(l, t)
	}
	return l
}

func TestTurns(t *testing.T) {
	var wanted []film.Turn
	for _, x := range matrices() {
		e := api.ErrForm
		if isTurn(x) {
			wanted = append(wanted, x)
			e = api.OK
		}
		want(t, fmt.Sprintf("CheckTurn of %v", x), film.CheckTurn(x), e)
	}
	l := film.Turns()
	want(t, "Turns", l, wanted)
	want(t, "the number of turns", len(l), 24)
	want(t, "the first turn", l[0], plain)
	want(t, "the second turn", l[1], film.Turn{{1, 0, 0}, {0, 0, 1}, {0, -1, 0}})
	want(t, "the last turn", l[23], film.Turn{{-1, 0, 0}, {0, -1, 0}, {0, 0, 1}})
	want(t, "whether they descend", slices.IsSortedFunc(l, func(a, b film.Turn) int { return slices.Compare(numbersOf(b), numbersOf(a)) }), true)
	l[0][0][0] = 9
	want(t, "the first turn again", film.Turns()[0], plain)
}

func TestTurnErrors(t *testing.T) {
	for _, b := range badTurns() {
		want(t, fmt.Sprintf("CheckTurn of %v", b.x), film.CheckTurn(b.x), b.e)
	}
}

func TestSeen(t *testing.T) {
	far := film.Camera{At: place(film.MaxPlace, -film.MaxPlace, -film.MaxPlace), Turn: plain, Focal: film.MaxFocal}
	for _, x := range []struct {
		c    film.Camera
		p    api.Vector
		x, y api.Ratio
	}{
		{first, place(2, -1, 10), ratio(10, 1), ratio(-5, 1)}, {second, place(2, -1, 10), ratio(-250, 3), ratio(-25, 3)},
		{first, place(0, 0, 10), ratio(0, 1), ratio(0, 1)}, {first, place(1, 0, -9), ratio(100, 1), ratio(0, 1)}, {first, place(3, 6, -3), ratio(300, 7), ratio(600, 7)}, {first, place(-20, 30, 990), ratio(-2, 1), ratio(3, 1)},
		{far, place(-film.MaxPlace, film.MaxPlace, -film.MaxPlace+1), ratio(-200000000, 1), ratio(200000000, 1)}, {far, place(film.MaxPlace-1, film.MaxPlace, film.MaxPlace), ratio(-1, 2), ratio(10000, 1)},
		// The point is turned, not the camera: row by row.
		{film.Camera{Turn: film.Turn{{0, 1, 0}, {0, 0, 1}, {1, 0, 0}}, Focal: 1}, place(7, 2, 3), ratio(2, 7), ratio(3, 7)}, {film.Camera{Turn: film.Turn{{0, 0, 1}, {1, 0, 0}, {0, 1, 0}}, Focal: 3}, place(7, 2, 3), ratio(9, 2), ratio(21, 2)}, {film.Camera{At: place(1, 1, 1), Turn: film.Turn{{0, -1, 0}, {1, 0, 0}, {0, 0, 1}}, Focal: 2}, place(2, 3, 5), ratio(-1, 1), ratio(1, 2)},
	} {
		a, b, e := film.Seen(x.c, x.p)
		wantOK(t, fmt.Sprintf("Seen of %v by %v", x.p, x.c), pair[api.Ratio, api.Ratio]{a, b}, e, pair[api.Ratio, api.Ratio]{x.x, x.y})
	}
	for _, x := range []struct {
		c film.Camera
		p api.Vector
	}{
		{first, place(0, 0, -10)}, {first, place(5, 5, -10)}, {first, place(5, 5, -11)}, {second, place(-10, 3, 3)}, {second, place(-11, 0, 0)}, {far, place(0, 0, -film.MaxPlace)},
	} {
		a, b, e := film.Seen(x.c, x.p)
		wantError(t, fmt.Sprintf("Seen of %v by %v", x.p, x.c), pair[api.Ratio, api.Ratio]{a, b}, e, api.ErrNone)
		is, e := film.Agrees([]film.Camera{x.c}, sight(0, to(-1000, 1000), to(-1000, 1000)), x.p)
		wantOK(t, fmt.Sprintf("Agrees of %v with all that %v sees", x.p, x.c), is, e, false)
	}
}

func sight(camera int, x, y api.Interval) film.Sight { return film.Sight{Camera: camera, X: x, Y: y} }

// both returns the cameras of the chapter's examples, sights its sights, and around its box.
func both() []film.Camera { return []film.Camera{first, second} }

func sights() []film.Sight {
	return []film.Sight{sight(0, to(10, 10), to(-5, -5)), sight(1, to(-84, -83), to(-9, -8))}
}

func room() film.Box { return film.Box{X: to(0, 4), Y: to(-3, 1), Z: to(8, 12)} }

func TestAgrees(t *testing.T) {
	p := place(2, -1, 10)
	for _, x := range []struct {
		s  film.Sight
		is bool
	}{
		{sights()[0], true}, {sights()[1], true}, {sight(1, to(-83, -83), to(-9, -8)), false}, {sight(1, to(-84, -84), to(-9, -8)), false}, {sight(1, to(-84, -83), to(-8, -8)), false}, {sight(1, to(-84, -83), to(-9, -9)), false},
		{sight(0, to(11, 12), to(-5, -5)), false}, {sight(0, to(8, 9), to(-5, -5)), false}, {sight(0, to(10, 10), to(-4, -4)), false}, {sight(0, to(10, 10), to(-6, -6)), false}, {sight(0, to(10, 11), to(-6, -5)), true}, {sight(0, to(9, 10), to(-5, -4)), true}, {sight(0, to(-1000, 1000), to(-1000, 1000)), true},
		{sight(1, to(10, 10), to(-5, -5)), false}, {sight(0, to(-84, -83), to(-9, -8)), false},
	} {
		is, e := film.Agrees(both(), x.s, p)
		wantOK(t, fmt.Sprintf("Agrees with %v", x.s), is, e, x.is)
	}
	wide := film.Camera{At: place(-film.MaxPlace, 0, -film.MaxPlace), Turn: plain, Focal: film.MaxFocal}
	is, e := film.Agrees([]film.Camera{first, first, first, wide}, sight(3, to(1000, 1000), to(0, 0)), place(-film.MaxPlace+2000, 0, film.MaxPlace))
	wantOK(t, "Agrees at the limits", is, e, true)
	is, e = film.Agrees([]film.Camera{wide}, sight(0, to(1000, 1000), to(0, 0)), place(-film.MaxPlace+2001, 0, film.MaxPlace))
	wantOK(t, "Agrees at the limits with another point", is, e, false)
}

// region is the results of Region.
type region struct {
	count int
	box   film.Box
}

func TestRegion(t *testing.T) {
	all := sight(0, to(-1000, 1000), to(-1000, 1000))
	for _, x := range []struct {
		sights []film.Sight
		box    film.Box
		region region
	}{
		{sights(), room(), region{1, film.Box{X: to(2, 2), Y: to(-1, -1), Z: to(10, 10)}}},
		{[]film.Sight{all}, room(), region{125, room()}}, {slices.Repeat([]film.Sight{all}, film.MaxSights), room(), region{125, room()}}, {[]film.Sight{all}, film.Box{X: to(5, 5), Y: to(6, 6), Z: to(7, 7)}, region{1, film.Box{X: to(5, 5), Y: to(6, 6), Z: to(7, 7)}}},
		// Only what is in front of the camera; just before it the most of the box is out of the picture.
		{[]film.Sight{all}, film.Box{X: to(0, 0), Y: to(0, 0), Z: to(-17, -2)}, region{8, film.Box{Z: to(-9, -2)}}}, {[]film.Sight{all}, film.Box{X: to(0, 15), Y: to(-15, 0), Z: to(-10, 5)}, region{11*11 + 14*16*16, film.Box{X: to(0, 15), Y: to(-15, 0), Z: to(-9, 5)}}},
		{[]film.Sight{sight(0, to(10, 10), to(-10, -10))}, film.Box{X: to(0, 15), Y: to(-15, 0), Z: to(0, 15)}, region{2, film.Box{X: to(1, 2), Y: to(-2, -1), Z: to(0, 10)}}},
	} {
		count, box, e := film.Region(both(), x.sights, x.box)
		wantOK(t, fmt.Sprintf("Region of %v in %v", x.sights, x.box), region{count, box}, e, x.region)
	}
	for _, x := range []struct {
		sights []film.Sight
		box    film.Box
	}{
		{sights(), film.Box{X: to(3, 4), Y: to(-3, 1), Z: to(8, 12)}}, {[]film.Sight{all}, film.Box{X: to(0, 0), Y: to(0, 0), Z: to(-20, -10)}}, {[]film.Sight{sight(0, to(10, 10), to(-5, -5)), sight(0, to(11, 11), to(-5, -5))}, room()},
	} {
		count, box, e := film.Region(both(), x.sights, x.box)
		wantError(t, fmt.Sprintf("Region of %v in %v", x.sights, x.box), region{count, box}, e, api.ErrNone)
	}
	for _, x := range []int{-film.MaxPlace, film.MaxPlace - film.MaxBox + 1} {
		side := to(x, x+film.MaxBox-1)
		count, box, e := film.Region([]film.Camera{{Turn: plain, At: place(0, 0, -film.MaxPlace), Focal: 1}}, []film.Sight{all}, film.Box{X: to(0, film.MaxBox-1), Y: side, Z: to(0, 0)})
		wantOK(t, "Region of the greatest box", region{count, box}, e, region{256, film.Box{X: to(0, film.MaxBox-1), Y: side}})
	}
}

func TestCameraErrors(t *testing.T) {
	for _, b := range badCameras() {
		for _, p := range []api.Vector{place(far[0], 0, 0), place(0, 0, 1)} {
			x, y, e := film.Seen(b.x, p)
			wantError(t, fmt.Sprintf("Seen by %v", b.x), pair[api.Ratio, api.Ratio]{x, y}, e, b.e)
		}
	}
	for _, b := range badCameraLists() {
		what := fmt.Sprintf(" of %v", b.x)
		is, e := film.Agrees(b.x, sight(-1, to(1, 0), to(1, 0)), place(far[0], 0, 0))
		wantError(t, "Agrees"+what, is, e, b.e)
		is, e = film.Agrees(b.x, sight(0, to(0, 0), to(0, 0)), place(0, 0, 0))
		wantError(t, "Agrees with a sight"+what, is, e, b.e)
		count, box, e := film.Region(b.x, nil, film.Box{X: to(1, 0)})
		wantError(t, "Region"+what, region{count, box}, e, b.e)
		count, box, e = film.Region(b.x, []film.Sight{sight(0, to(0, 0), to(0, 0))}, film.Box{})
		wantError(t, "Region of a sight"+what, region{count, box}, e, b.e)
	}
	for _, p := range badVectors(film.MaxPlace) {
		x, y, e := film.Seen(first, p)
		wantError(t, fmt.Sprintf("Seen of %v", p), pair[api.Ratio, api.Ratio]{x, y}, e, api.ErrRange)
		is, e := film.Agrees(both(), sights()[0], p)
		wantError(t, fmt.Sprintf("Agrees of %v", p), is, e, api.ErrRange)
	}
}

func TestSightErrors(t *testing.T) {
	bad := []wrong[[]film.Sight]{{nil, api.ErrEmpty}, {[]film.Sight{}, api.ErrEmpty}, {slices.Repeat([]film.Sight{sight(9, to(1, 0), to(1, 0))}, film.MaxSights+1), api.ErrMany}, {slices.Repeat(sights(), 5)[:film.MaxSights+1], api.ErrMany}}
	for _, b := range badSights() {
		is, e := film.Agrees(both(), b.x, place(far[0], 0, 0))
		wantError(t, fmt.Sprintf("Agrees with %v", b.x), is, e, b.e)
		bad = append(bad, wrong[[]film.Sight]{[]film.Sight{sights()[0], b.x, sight(-1, to(far[0], 0), to(0, 0))}, b.e}, wrong[[]film.Sight]{[]film.Sight{b.x, sight(0, to(1, 0), to(0, 0))}, b.e})
	}
	for _, b := range bad {
		for _, in := range []film.Box{{X: to(1, 0)}, room()} {
			count, box, e := film.Region(both(), b.x, in)
			wantError(t, fmt.Sprintf("Region of %v", b.x), region{count, box}, e, b.e)
		}
	}
	is, e := film.Agrees(nil, sight(0, to(0, 0), to(0, 0)), place(0, 0, 0))
	wantError(t, "Agrees without cameras", is, e, api.ErrUnknown)
	count, box, e := film.Region(nil, nil, film.Box{X: to(1, 0)})
	wantError(t, "Region without cameras and sights", region{count, box}, e, api.ErrEmpty)
	count, box, e = film.Region(nil, sights(), room())
	wantError(t, "Region without cameras", region{count, box}, e, api.ErrUnknown)
	for _, b := range badBoxes() {
		count, box, e := film.Region(both(), sights(), b.x)
		wantError(t, fmt.Sprintf("Region in %v", b.x), region{count, box}, e, b.e)
	}
}

// rowOf returns the sum of the products of a row of a camera's turn and the parts of a point before it.
func rowOf(c film.Camera, row int, p api.Vector) int64 {
	return int64(c.Turn[row][0]*(p.X-c.At.X) + c.Turn[row][1]*(p.Y-c.At.Y) + c.Turn[row][2]*(p.Z-c.At.Z))
}

// picture returns where a camera sees a point, and whether it is in front of it, by the definition.
func picture(c film.Camera, p api.Vector) (*big.Rat, *big.Rat, bool) {
	depth := rowOf(c, 2, p)
	if depth <= 0 {
		return nil, nil, false
	}
	focal := int64(c.Focal)
	return big.NewRat(rowOf(c, 0, p)*focal, depth), big.NewRat(rowOf(c, 1, p)*focal, depth), true
}

// someCamera returns a camera near 0.
func someCamera(r *rand.Rand) film.Camera {
	return film.Camera{At: somePlace(r, 20), Turn: one(r, film.Turns()), Focal: between(r, 1, 90)}
}

func TestSeenByTheDefinition(t *testing.T) {
	r := dice(6)
	seen := 0
	for range 3000 {
		c, p := someCamera(r), somePlace(r, 30)
		x, y, e := film.Seen(c, p)
		a, b, is := picture(c, p)
		what := fmt.Sprintf("Seen of %v by %v", p, c)
		if !is {
			wantError(t, what, pair[api.Ratio, api.Ratio]{x, y}, e, api.ErrNone)
			continue
		}
		seen++
		wantOK(t, what, pair[api.Ratio, api.Ratio]{x, y}, e, pair[api.Ratio, api.Ratio]{ratio(int(a.Num().Int64()), int(a.Denom().Int64())), ratio(int(b.Num().Int64()), int(b.Denom().Int64()))})
	}
	want(t, "whether there were both", seen > 500 && seen < 2500, true)
}

// someSight returns a sight of one of the cameras, often of a point.
func someSight(r *rand.Rand, cameras []film.Camera, p api.Vector) film.Sight {
	s := sight(r.IntN(len(cameras)), some(r, -60, 60), some(r, -60, 60))
	if x, y, is := picture(cameras[s.Camera], p); is && r.IntN(3) > 0 {
		if a, b := near(r, x), near(r, y); max(-a.Low, a.High, -b.Low, b.High) <= film.MaxPixel {
			s.X, s.Y = a, b
		}
	}
	return s
}

// near returns a small interval that has a number.
func near(r *rand.Rand, x *big.Rat) api.Interval {
	down := int(new(big.Int).Div(x.Num(), x.Denom()).Int64())
	return to(down-r.IntN(4), down+1+r.IntN(4))
}

func TestRegionByTheDefinition(t *testing.T) {
	r := dice(7)
	none, many := 0, 0
	for range 400 {
		var cameras []film.Camera
		for range between(r, 1, film.MaxCameras) {
			cameras = append(cameras, someCamera(r))
		}
		p := somePlace(r, 15)
		var l []film.Sight
		for range between(r, 1, 3) {
			l = append(l, someSight(r, cameras, p))
		}
		in := film.Box{X: to(p.X-r.IntN(4), p.X+r.IntN(4)), Y: to(p.Y-r.IntN(4), p.Y+r.IntN(4)), Z: to(p.Z-r.IntN(4), p.Z+r.IntN(4))}
		var points []api.Vector
		for x := in.X.Low; x <= in.X.High; x++ {
			for y := in.Y.Low; y <= in.Y.High; y++ {
				for z := in.Z.Low; z <= in.Z.High; z++ {
					q, agreeing := place(x, y, z), 0
					for _, s := range l {
						a, b, front := picture(cameras[s.Camera], q)
						is, e := film.Agrees(cameras, s, q)
						wantOK(t, fmt.Sprintf("Agrees of %v with %v by %v", q, s, cameras), is, e, front && inside(a, s.X) && inside(b, s.Y))
						if is {
							agreeing++
						}
					}
					if agreeing == len(l) {
						points = append(points, q)
					}
				}
			}
		}
		count, box, e := film.Region(cameras, l, in)
		what := fmt.Sprintf("Region of %v by %v in %v", l, cameras, in)
		if len(points) == 0 {
			wantError(t, what, region{count, box}, e, api.ErrNone)
			none++
			continue
		}
		part := func(of func(api.Vector) int) api.Interval {
			var parts []int
			for _, q := range points {
				parts = append(parts, of(q))
			}
			return to(slices.Min(parts), slices.Max(parts))
		}
		least := film.Box{X: part(func(v api.Vector) int { return v.X }), Y: part(func(v api.Vector) int { return v.Y }), Z: part(func(v api.Vector) int { return v.Z })}
		wantOK(t, what, region{count, box}, e, region{len(points), least})
		many++
	}
	want(t, "whether there were both", none > 50 && many > 50, true)
}
