package film_test

import (
	"math/rand/v2"
	"slices"
	"testing"

	"crumple/api"
	"crumple/film"
)

// Rules that hold everywhere: arguments stay as they are, results share no memory, and no argument makes a function panic.

func TestArgumentsStayAsTheyAre(t *testing.T) {
	l, flashes, events := devices(), []film.Flash{flash(1, 1000, 1001)}, []film.Event{event("cam", 3), event("rec", 9000)}
	images, marker := []film.Image{shot(), shot()}, label()
	lens := rings(0, 1000, 100, 1100)
	cameras, seen := both(), sights()
	a, b, marks := earlier(), later(), []int{0, 1, 2}
	for range 2 {
		film.CheckDevices(l)
		film.Fitted(l[0], flashes)
		film.Order(l, events[0], events[1])
		film.Proved(l, events)
		film.Found(images[0], marker)
		track, e := film.Tracked(images, marker, at(0, 0), 1)
		wantOK(t, "Tracked", track, e, []api.Point{at(1, 1), at(1, 1)})
		clear(track)
		film.Corrected(lens, at(6, 8))
		turns := film.Turns()
		want(t, "the first turn", turns[0], plain)
		clear(turns)
		film.Region(cameras, seen, room())
		_, certificate, _, e := film.Framed(a, b, 0)
		wantOK(t, "the certificate", certificate, e, marks)
		clear(certificate)
		film.CheckFrame(a, b, quarter, 0, marks)
		boxes, e := film.Intrusions(a, b, quarter, 0)
		want(t, "Intrusions", e, api.OK)
		clear(boxes)
		film.Print(a)
		want(t, "the devices", l, devices())
		want(t, "the flashes", flashes, []film.Flash{flash(1, 1000, 1001)})
		want(t, "the events", events, []film.Event{event("cam", 3), event("rec", 9000)})
		want(t, "the images", images, []film.Image{shot(), shot()})
		want(t, "the marker", marker, label())
		want(t, "the lens", lens, rings(0, 1000, 100, 1100))
		want(t, "the cameras", cameras, both())
		want(t, "the sights", seen, sights())
		want(t, "the survey before", a, earlier())
		want(t, "the survey after", b, later())
		want(t, "the marks", marks, []int{0, 1, 2})
	}
	first, _, e := film.Parse(earlierText)
	want(t, "Parse", e, api.OK)
	clear(first)
	again, _, e := film.Parse(earlierText)
	wantOK(t, "Parse again", again, e, earlier())
}

// anyNumbers returns numbers that are hardly ever all in their ranges.
func anyNumbers(r *rand.Rand) func() int {
	numbers := append([]int{0, 1, 1, 2, 3, 5, -1, 1000}, far...)
	most := between(r, 4, len(numbers))
	return func() int { return one(r, numbers[:most]) }
}

func TestNothingPanics(t *testing.T) {
	r := dice(18)
	for range 5000 {
		number := anyNumbers(r)
		span := func() api.Interval { return to(number(), number()) }
		vector := func() api.Vector { return place(number(), number(), number()) }
		names := append([]string{"a", "b", "c", "d"}, badNames...)
		name := func() string { return one(r, names[:between(r, 4, len(names))]) }
		picture := func() film.Image {
			return film.Image{Width: number(), Height: number(), Pixels: slices.Repeat([]int{number()}, r.IntN(3))}
		}
		turn := func() film.Turn {
			if r.IntN(2) == 0 {
				return one(r, film.Turns())
			}
			return film.Turn{{number(), number(), number()}, {number(), number(), number()}, {number(), number(), number()}}
		}
		f := film.Frame{Turn: turn(), Shift: vector()}
		var l []film.Device
		var flashes []film.Flash
		var events []film.Event
		var images []film.Image
		var lens []film.Ring
		var cameras []film.Camera
		var seen []film.Sight
		var a, b []film.Mark
		var marks []int
		for range r.IntN(4) {
			l = append(l, film.Device{Name: name(), Rate: ratio(number(), number()), Offset: span()})
			flashes = append(flashes, film.Flash{Tick: number(), Time: span()})
			events = append(events, event(name(), number()))
			images = append(images, picture())
			lens = append(lens, film.Ring{From: number(), Factor: number()})
			cameras = append(cameras, film.Camera{At: vector(), Turn: turn(), Focal: number()})
			seen = append(seen, sight(number(), span(), span()))
			a, b = append(a, film.Mark{Name: name(), At: vector()}), append(b, film.Mark{Name: name(), At: vector()})
			marks = append(marks, number())
			film.Common(l[0], number())
			film.Fitted(l[0], flashes)
			film.Seen(cameras[0], vector())
			film.Found(images[0], picture())
			film.Difference(images[0], picture(), at(number(), number()))
		}
		film.Order(l, event(name(), number()), event(name(), number()))
		film.Proved(l, events)
		film.Tracked(images, picture(), at(number(), number()), number())
		film.Corrected(lens, at(number(), number()))
		film.Agrees(cameras, sight(number(), span(), span()), vector())
		film.Region(cameras, seen, film.Box{X: span(), Y: span(), Z: span()})
		film.Carried(f, vector())
		tolerance := number()
		if e := film.CheckSurvey(a); e != api.OK {
			wantSurveyErrors(t, a, b, f, tolerance, e)
		}
		film.Framed(a, b, tolerance)
		film.CheckFrame(a, a, f, tolerance, marks)
		film.Intrusions(a, a, f, tolerance)
	}
}
