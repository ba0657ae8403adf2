package film_test

import (
	"fmt"
	"math/rand/v2"
	"slices"
	"testing"

	"crumple/api"
	"crumple/film"
)

// P5.5 (consequences): what follows from the results, for many inputs; the dice are the same on each run.

func TestTrueOffsetsAreLeft(t *testing.T) {
	r := dice(10)
	narrower := 0
	for range 2000 {
		d := someDevice(r, "a")
		offset := between(r, d.Offset.Low, d.Offset.High)
		var flashes []film.Flash
		for range between(r, 1, film.MaxFlashes) {
			tick := r.IntN(1000)
			flashes = append(flashes, film.Flash{Tick: tick, Time: near(r, exact(d, tick, offset))})
		}
		left, e := film.Fitted(d, flashes)
		want(t, "Fitted", e, api.OK)
		want(t, fmt.Sprintf("whether %d is in %v", offset, left), left.Low <= offset && offset <= left.High, true)
		if left != d.Offset {
			narrower++
		}
		fitted := d
		fitted.Offset = left
		for range 10 {
			tick := r.IntN(film.MaxTick + 1)
			wide, e := film.Common(d, tick)
			want(t, "Common", e, api.OK)
			narrow, e := film.Common(fitted, tick)
			want(t, "Common of the device that was fitted", e, api.OK)
			time := exact(d, tick, offset)
			want(t, fmt.Sprintf("whether %v is in both %v and %v", time, wide, narrow), inside(time, wide) && inside(time, narrow), true)
			want(t, "whether less is left, or as much", wide.Low <= narrow.Low && narrow.High <= wide.High, true)
		}
	}
	want(t, "whether many are narrower", narrower > 1000, true)
}

func TestOrdersAreOppositeInExchange(t *testing.T) {
	r := dice(11)
	counts := map[int]int{}
	for range 3000 {
		l := []film.Device{someDevice(r, "a"), someDevice(r, "b"), someDevice(r, "c")}
		a, b := event(one(r, l).Name, r.IntN(40)), event(one(r, l).Name, r.IntN(40))
		order, e := film.Order(l, a, b)
		want(t, "Order", e, api.OK)
		other, e := film.Order(l, b, a)
		wantOK(t, fmt.Sprintf("Order of %v and %v in exchange", a, b), other, e, -order)
		counts[order]++
	}
	want(t, "whether there were all", counts[-1] > 300 && counts[0] > 300 && counts[1] > 300, true)
}

// cut returns the part of an image that begins at a pixel.
func cut(x film.Image, from api.Point, width, height int) film.Image {
	part := film.Image{Width: width, Height: height}
	for row := range height {
		part.Pixels = append(part.Pixels, x.Pixels[(from.Y+row)*x.Width+from.X:][:width]...)
	}
	return part
}

func TestMarkersThatWereCutOutAreFound(t *testing.T) {
	r := dice(12)
	unique := 0
	for range 500 {
		x := someImage(r, between(r, 1, 12), between(r, 1, 12))
		width, height := between(r, 1, x.Width), between(r, 1, x.Height)
		from := at(between(r, 0, x.Width-width), between(r, 0, x.Height-height))
		marker := cut(x, from, width, height)
		found, margin, e := film.Found(x, marker)
		want(t, "Found", e, api.OK)
		difference, e := film.Difference(x, marker, found)
		wantOK(t, fmt.Sprintf("Difference of a marker that was cut out at %v", from), difference, e, 0)
		want(t, "whether it is found later", before(from, found), false)
		if margin > 0 {
			want(t, "the pixel at which it is found", found, from)
			unique++
		}
		// It is tracked where it was cut out, too, from anywhere near it.
		start := at(between(r, max(0, from.X-2), min(x.Width-width, from.X+2)), between(r, max(0, from.Y-2), min(x.Height-height, from.Y+2)))
		track, e := film.Tracked([]film.Image{x, x}, marker, start, 2)
		want(t, "Tracked", e, api.OK)
		for _, p := range track {
			difference, e := film.Difference(x, marker, p)
			wantOK(t, "Difference where it is tracked", difference, e, 0)
		}
	}
	want(t, "whether there were many", unique > 200, true)
}

// sightsOf returns the sights of a point by all cameras, and whether all of them see it.
func sightsOf(r *rand.Rand, cameras []film.Camera, p api.Vector) ([]film.Sight, bool) {
	var l []film.Sight
	for i, c := range cameras {
		x, y, is := picture(c, p)
		if !is {
			return nil, false
		}
		s := sight(i, near(r, x), near(r, y))
		if max(-s.X.Low, s.X.High, -s.Y.Low, s.Y.High) > film.MaxPixel {
			return nil, false
		}
		l = append(l, s)
	}
	return l, true
}

// lies reports whether a box lies in another one.
func lies(part, whole film.Box) bool {
	in := func(a, b api.Interval) bool { return b.Low <= a.Low && a.High <= b.High }
	return in(part.X, whole.X) && in(part.Y, whole.Y) && in(part.Z, whole.Z)
}

func TestPointsThatAreSeenLieInTheRegion(t *testing.T) {
	r := dice(13)
	seen, smaller, none := 0, 0, 0
	for range 4000 {
		var cameras []film.Camera
		for range between(r, 1, 3) {
			cameras = append(cameras, someCamera(r))
		}
		p := somePlace(r, 30)
		l, is := sightsOf(r, cameras, p)
		if !is {
			continue
		}
		seen++
		in := film.Box{X: to(p.X-r.IntN(6), p.X+r.IntN(6)), Y: to(p.Y-r.IntN(6), p.Y+r.IntN(6)), Z: to(p.Z-r.IntN(6), p.Z+r.IntN(6))}
		count, box, e := film.Region(cameras, l, in)
		want(t, "Region", e, api.OK)
		what := fmt.Sprintf("of %v by %v in %v", l, cameras, in)
		want(t, "whether the point lies in the region "+what, count > 0 && lies(film.Box{X: to(p.X, p.X), Y: to(p.Y, p.Y), Z: to(p.Z, p.Z)}, box), true)
		want(t, "whether the region lies in the box "+what, lies(box, in), true)
		further, least, e := film.Region(cameras, append(l, someSight(r, cameras, p)), in)
		if e == api.ErrNone {
			none++
			continue
		}
		want(t, "Region with a further sight", e, api.OK)
		want(t, "whether a further sight makes it larger "+what, further > count || !lies(least, box), false)
		if further < count {
			smaller++
		}
	}
	want(t, "whether there were many", seen > 500 && smaller > 30 && none > 30, true)
}

func TestNoFrameHasMoreMarksThanTheCommonOne(t *testing.T) {
	r := dice(14)
	for range 300 {
		tolerance := r.IntN(4)
		a, b, _ := someSurveys(r, between(r, 1, 15), tolerance)
		f, marks, second, e := film.Framed(a, b, tolerance)
		want(t, "Framed", e, api.OK)
		want(t, "CheckFrame of the certificate", film.CheckFrame(a, b, f, tolerance, marks), api.OK)
		want(t, "whether another turn has more", second > len(marks), false)
		for _, other := range allFrames(a, b) {
			l := agreeing(a, b, other, tolerance)
			want(t, "CheckFrame of another frame", film.CheckFrame(a, b, other, tolerance, l), api.OK)
			want(t, fmt.Sprintf("whether %v has more marks than %v", other, f), len(l) > len(marks), false)
			want(t, "whether another turn has more than the second number", other.Turn != f.Turn && len(l) > second, false)
		}
	}
}

// carriedSurvey returns a survey that was carried by a frame.
func carriedSurvey(t *testing.T, f film.Frame, l []film.Mark) []film.Mark {
	t.Helper()
	moved := slices.Clone(l)
	for i, m := range l {
		p, e := film.Carried(f, m.At)
		want(t, "Carried", e, api.OK)
		moved[i].At = p
	}
	return moved
}

func TestSurveysThatWereCarriedHaveTheirFrame(t *testing.T) {
	r := dice(15)
	unique, several := 0, 0
	for range 1000 {
		tolerance := r.IntN(3)
		most := one(r, []int{3, 20, film.MaxPlace / 2})
		f := film.Frame{Turn: one(r, film.Turns()), Shift: somePlace(r, most)}
		var places []api.Vector
		for range between(r, 1, 7) {
			places = append(places, somePlace(r, most))
		}
		a := named(places...)
		b := carriedSurvey(t, f, a)
		got, marks, second, e := film.Framed(a, b, tolerance)
		want(t, "Framed", e, api.OK)
		want(t, "the number of marks of the certificate", len(marks), len(a))
		if second == len(a) {
			// Another turn carries it as well.
			several++
			continue
		}
		want(t, fmt.Sprintf("the common frame of %v and %v", a, b), got, f)
		unique++
		l, e := film.Intrusions(a, b, got, tolerance)
		want(t, "Intrusions", e, api.OK)
		still := to(-tolerance, tolerance)
		want(t, "Intrusions of marks that did not move", l, slices.Repeat([]film.Box{{X: still, Y: still, Z: still}}, len(a)))
	}
	want(t, "whether there were both", unique > 300 && several > 100, true)
}

func TestMarksThatDidNotMoveHaveNoIntrusion(t *testing.T) {
	r := dice(16)
	for range 500 {
		tolerance := r.IntN(film.MaxTolerance + 1)
		a, _, f := someSurveys(r, 100, 0)
		b := carriedSurvey(t, f, a)
		moved := r.IntN(len(a))
		way := somePlace(r, 50)
		b[moved].At = place(b[moved].At.X+way.X, b[moved].At.Y+way.Y, b[moved].At.Z+way.Z)
		l, e := film.Intrusions(a, b, f, tolerance)
		want(t, "Intrusions", e, api.OK)
		for i, box := range l {
			from := api.Vector{}
			if i == moved {
				from = way
			}
			want(t, fmt.Sprintf("the intrusion of the mark %d", i), box, film.Box{X: to(from.X-tolerance, from.X+tolerance), Y: to(from.Y-tolerance, from.Y+tolerance), Z: to(from.Z-tolerance, from.Z+tolerance)})
		}
	}
}

func TestSurveysAreParsedAsTheyWerePrinted(t *testing.T) {
	r := dice(17)
	for range 500 {
		var l []film.Mark
		for i := range between(r, 1, film.MaxPoints) {
			l = append(l, film.Mark{Name: fmt.Sprintf("%s%d", one(r, []string{"m", "A_", "mark", longest[:20]}), i), At: somePlace(r, one(r, []int{1, 100, film.MaxPlace}))})
		}
		s, e := film.Print(l)
		want(t, "Print", e, api.OK)
		again, i, e := film.Parse(s)
		wantOK(t, "Parse", again, e, l)
		want(t, "the index of Parse", i, 0)
	}
}
