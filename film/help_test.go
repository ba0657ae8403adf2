package film_test

import (
	"fmt"
	"math"
	"math/rand/v2"
	"slices"
	"strings"
	"testing"

	"crumple/api"
	"crumple/film"
)

// longest is a name that could not be longer.
var longest = strings.Repeat("x", api.MaxName)

// badNames are none.
var badNames = []string{"", "9a", "_a", "a b", "a-b", "-", "h\u00e9ad", "a\n", "\xff", longest + "x"}

// far are numbers that are out of all ranges.
var far = []int{math.MinInt, math.MinInt + 1, -200000000000, 200000000000, math.MaxInt}

// printed returns a result as text: nil and empty lists are alike.
func printed(x any) string {
	if l, ok := x.([]string); ok {
		// The quotes tell a list of one empty string from an empty list.
		return fmt.Sprintf("%q", l)
	}
	return fmt.Sprintf("%+v", x)
}

// want compares two results as they are printed.
func want[T any](t *testing.T, what string, got, wanted T) {
	t.Helper()
	if a, b := printed(got), printed(wanted); a != b {
		t.Errorf("%s: got %s, want %s", what, a, b)
	}
}

// wantError checks an error, and that a result beside one is its zero value.
func wantError[T any](t *testing.T, what string, got T, e, wanted api.Errno) {
	t.Helper()
	want(t, what+", the error", e, wanted)
	if wanted != api.OK {
		want(t, what+", beside the error", got, *new(T))
	}
}

// wantOK checks a result without an error.
func wantOK[T any](t *testing.T, what string, got T, e api.Errno, wanted T) {
	t.Helper()
	want(t, what+", the error", e, api.OK)
	want(t, what, got, wanted)
}

// dice are the same on each run.
func dice(seed uint64) *rand.Rand {
	return rand.New(rand.NewPCG(seed, 5))
}

// between returns a number from low to high.
func between(r *rand.Rand, low, high int) int {
	return low + r.IntN(high-low+1)
}

// some returns an interval from low to high.
func some(r *rand.Rand, low, high int) api.Interval {
	a, b := between(r, low, high), between(r, low, high)
	return to(min(a, b), max(a, b))
}

// one returns an element of a list.
func one[A any](r *rand.Rand, l []A) A {
	return l[r.IntN(len(l))]
}

// words returns the words of a text.
func words(s string) []string { return strings.Fields(s) }

func to(low, high int) api.Interval { return api.Interval{Low: low, High: high} }

func ratio(num, den int) api.Ratio { return api.Ratio{Num: num, Den: den} }

// pair is two results of one call.
type pair[A, B any] struct {
	first  A
	second B
}

// wrong is an argument with its first error; most have later errors, too.
type wrong[T any] struct {
	x T
	e api.Errno
}

// badIntervals has intervals in the order of their errors, by the ends of their range.
func badIntervals(low, high int) []wrong[api.Interval] {
	l := []wrong[api.Interval]{
		{to(low-1, high), api.ErrRange}, {to(high+1, high), api.ErrRange}, {to(high+1, low), api.ErrRange},
		{to(low, high+1), api.ErrRange}, {to(low, low-1), api.ErrRange}, {to(high, low-1), api.ErrRange},
		{to(high, low), api.ErrOrder}, {to(low+1, low), api.ErrOrder},
	}
	for _, n := range far {
		l = append(l, wrong[api.Interval]{to(n, low), api.ErrRange}, wrong[api.Interval]{to(low, n), api.ErrRange}, wrong[api.Interval]{to(n, n), api.ErrRange})
	}
	return l
}

// outside has numbers that are not from low to high.
func outside(low, high int) []int {
	return append([]int{low - 1, high + 1}, far...)
}

// at returns a pixel, or a point of an image.
func at(x, y int) api.Point { return api.Point{X: x, Y: y} }

// place returns a place, or a shift.
func place(x, y, z int) api.Vector { return api.Vector{X: x, Y: y, Z: z} }

// camDevice and recDevice are the devices C and R of the chapter's examples.
func camDevice() film.Device {
	return film.Device{Name: "cam", Rate: ratio(1000, 1), Offset: to(-5, 5)}
}

func recDevice() film.Device {
	return film.Device{Name: "rec", Rate: ratio(1, 3)}
}

// devices returns both devices of the chapter's examples.
func devices() []film.Device { return []film.Device{camDevice(), recDevice()} }

// image returns an image by its rows.
func image(rows ...[]int) film.Image {
	x := film.Image{Height: len(rows)}
	for _, row := range rows {
		x.Width = len(row)
		x.Pixels = append(x.Pixels, row...)
	}
	return x
}

// even returns an image of a size, of which all pixels have one light.
func even(width, height, light int) film.Image {
	return film.Image{Width: width, Height: height, Pixels: slices.Repeat([]int{light}, width*height)}
}

// someImage returns an image of a size, with few different lights, or with any.
func someImage(r *rand.Rand, width, height int) film.Image {
	most := one(r, []int{1, 2, 5, film.MaxLight})
	x := film.Image{Width: width, Height: height}
	for range width * height {
		x.Pixels = append(x.Pixels, r.IntN(most+1))
	}
	return x
}

// plain is the first one of all turns.
var plain = film.Turn{{1, 0, 0}, {0, 1, 0}, {0, 0, 1}}

// first and second are the cameras P and Q of the chapter's examples.
var (
	first  = film.Camera{At: place(0, 0, -10), Turn: plain, Focal: 100}
	second = film.Camera{At: place(-10, 0, 0), Turn: film.Turn{{0, 0, -1}, {0, 1, 0}, {1, 0, 0}}, Focal: 100}
)

// mark returns a mark at a place.
func mark(name string, x, y, z int) film.Mark { return film.Mark{Name: name, At: place(x, y, z)} }

// named returns a survey with marks at some places.
func named(places ...api.Vector) []film.Mark {
	var l []film.Mark
	for i, p := range places {
		l = append(l, film.Mark{Name: fmt.Sprintf("m%d", i), At: p})
	}
	return l
}

// somePlace returns a place that is not farther away in any part than most.
func somePlace(r *rand.Rand, most int) api.Vector {
	return place(between(r, -most, most), between(r, -most, most), between(r, -most, most))
}

// badDevices has devices in the order of their errors.
func badDevices() []wrong[film.Device] {
	turned := to(1, 0)
	var l []wrong[film.Device]
	add := func(name string, rate api.Ratio, offset api.Interval, e api.Errno) {
		l = append(l, wrong[film.Device]{film.Device{Name: name, Rate: rate, Offset: offset}, e})
	}
	for _, name := range badNames {
		add(name, api.Ratio{}, turned, api.ErrName)
		add(name, ratio(1, 1), to(0, 0), api.ErrName)
	}
	for _, n := range outside(1, film.MaxRate) {
		add("a", ratio(n, 2), turned, api.ErrRange)
		add("a", ratio(2, n), turned, api.ErrRange)
		add("a", ratio(n, 1), to(0, 0), api.ErrRange)
		add("a", ratio(1, n), to(0, 0), api.ErrRange)
	}
	for _, x := range []api.Ratio{ratio(2, film.MaxRate+2), ratio(film.MaxRate+2, 2), ratio(film.MaxRate+2, film.MaxRate+2), ratio(0, 2), ratio(2, 0), ratio(0, 0), ratio(-2, -2), ratio(-2, 4), ratio(2, -4)} {
		// These have a common divisor, too.
		add("a", x, turned, api.ErrRange)
	}
	for _, x := range []api.Ratio{ratio(2, 2), ratio(2, 4), ratio(film.MaxRate, film.MaxRate), ratio(9999, 9), ratio(film.MaxRate, 2), ratio(35, 49)} {
		add("a", x, to(far[0], 0), api.ErrForm)
		add("a", x, to(0, 0), api.ErrForm)
	}
	for _, b := range badIntervals(-film.MaxOffset, film.MaxOffset) {
		add("a", ratio(1, 1), b.x, b.e)
	}
	return l
}

// badDeviceLists has lists of devices in the order of their errors.
func badDeviceLists() []wrong[[]film.Device] {
	good := film.Device{Name: "b", Rate: ratio(1, 1)}
	l := []wrong[[]film.Device]{
		{make([]film.Device, film.MaxDevices+1), api.ErrMany}, {slices.Repeat([]film.Device{good}, film.MaxDevices+1), api.ErrMany},
		{[]film.Device{good, good, {}}, api.ErrTwice}, {[]film.Device{good, {Name: "a", Rate: ratio(2, 3)}, good}, api.ErrTwice}, {[]film.Device{{}}, api.ErrName},
		// An error of the device itself comes before that of its name.
		{[]film.Device{good, {Name: "b", Rate: ratio(0, 1)}}, api.ErrRange}, {[]film.Device{good, {Name: "b", Rate: ratio(1, 1), Offset: to(1, 0)}}, api.ErrOrder},
	}
	for _, b := range badDevices() {
		l = append(l, wrong[[]film.Device]{[]film.Device{good, b.x, good, {}}, b.e})
	}
	return l
}

// badImages has images in the order of their errors.
func badImages() []wrong[film.Image] {
	var l []wrong[film.Image]
	for _, n := range outside(1, film.MaxSide) {
		l = append(l, wrong[film.Image]{film.Image{Width: n, Height: 1, Pixels: []int{-1}}, api.ErrRange}, wrong[film.Image]{film.Image{Width: 1, Height: n, Pixels: []int{-1}}, api.ErrRange}, wrong[film.Image]{film.Image{Width: n, Height: n}, api.ErrRange})
	}
	for _, x := range []film.Image{{Width: 1, Height: 1}, {Width: 1, Height: 1, Pixels: []int{}}, {Width: 2, Height: 2, Pixels: []int{-1, 0, 0}}, {Width: 2, Height: 2, Pixels: []int{-1, 0, 0, 0, 0}}, {Width: 2, Height: 3, Pixels: make([]int, 5)}, {Width: film.MaxSide, Height: film.MaxSide, Pixels: make([]int, film.MaxSide)}} {
		l = append(l, wrong[film.Image]{x, api.ErrShape})
	}
	for _, n := range outside(0, film.MaxLight) {
		l = append(l, wrong[film.Image]{image([]int{n, 0}), api.ErrRange}, wrong[film.Image]{image([]int{0}, []int{n}), api.ErrRange})
	}
	return l
}

// badLenses has lenses in the order of their errors.
func badLenses() []wrong[[]film.Ring] {
	good := film.Ring{From: 0, Factor: 1000}
	l := []wrong[[]film.Ring]{
		{nil, api.ErrEmpty}, {[]film.Ring{}, api.ErrEmpty}, {make([]film.Ring, film.MaxRings+1), api.ErrMany},
		{[]film.Ring{{From: 1, Factor: 499}}, api.ErrRange}, {[]film.Ring{{From: 1, Factor: 500}, {From: -1}}, api.ErrOrder}, {[]film.Ring{{From: film.MaxSquare, Factor: 2000}}, api.ErrOrder},
		{[]film.Ring{good, {From: 0, Factor: 2000}, {From: -1}}, api.ErrOrder}, {[]film.Ring{good, {From: 7, Factor: 2000}, {From: 7, Factor: 500}}, api.ErrOrder}, {[]film.Ring{good, {From: 7, Factor: 2000}, {From: 6, Factor: 500}}, api.ErrOrder}, {[]film.Ring{good, {From: 0, Factor: 2001}}, api.ErrRange},
		{[]film.Ring{good, {From: film.MaxSquare, Factor: 2000}, {From: film.MaxSquare, Factor: 500}}, api.ErrOrder},
	}
	for _, n := range outside(0, film.MaxSquare) {
		l = append(l, wrong[[]film.Ring]{[]film.Ring{{From: n, Factor: 1000}}, api.ErrRange}, wrong[[]film.Ring]{[]film.Ring{good, {From: n, Factor: 1000}, good}, api.ErrRange})
	}
	for _, n := range outside(500, 2000) {
		l = append(l, wrong[[]film.Ring]{[]film.Ring{{Factor: n}}, api.ErrRange}, wrong[[]film.Ring]{[]film.Ring{good, {From: 0, Factor: n}, good}, api.ErrRange}, wrong[[]film.Ring]{[]film.Ring{good, {From: 5, Factor: n}, good}, api.ErrRange})
	}
	return l
}

// badTurns has turns in the order of their errors.
func badTurns() []wrong[film.Turn] {
	l := []wrong[film.Turn]{
		{film.Turn{}, api.ErrForm},
		// All that is wrong is the determinant, a row, or a column.
		{film.Turn{{1, 0, 0}, {0, 1, 0}, {0, 0, -1}}, api.ErrForm}, {film.Turn{{0, 1, 0}, {1, 0, 0}, {0, 0, 1}}, api.ErrForm}, {film.Turn{{-1, 0, 0}, {0, -1, 0}, {0, 0, -1}}, api.ErrForm},
		{film.Turn{{1, 1, 0}, {0, 1, 0}, {0, 0, 1}}, api.ErrForm}, {film.Turn{{1, 0, 0}, {0, 1, 0}, {0, -1, 1}}, api.ErrForm}, {film.Turn{{1, 0, 0}, {1, 0, 0}, {0, 0, 1}}, api.ErrForm}, {film.Turn{{1, 0, 0}, {0, 1, 0}, {0, 0, 0}}, api.ErrForm}, {film.Turn{{1, 1, 1}, {1, 1, 1}, {1, 1, 1}}, api.ErrForm},
		{film.Turn{{1, -1, 0}, {0, 1, -1}, {0, 0, 1}}, api.ErrForm},
	}
	for _, n := range append([]int{2, -2}, far...) {
		for i := range 9 {
			a, b := film.Turn{}, plain
			a[i/3][i%3], b[i/3][i%3] = n, n
			l = append(l, wrong[film.Turn]{a, api.ErrRange}, wrong[film.Turn]{b, api.ErrRange})
		}
	}
	return l
}

// badVectors has vectors of which one part is not from -most to most.
func badVectors(most int) []api.Vector {
	var l []api.Vector
	for _, n := range outside(-most, most) {
		l = append(l, place(n, 0, 0), place(0, n, 0), place(0, 0, n), place(n, n, n))
	}
	return l
}

// badCameras has cameras in the order of their errors.
func badCameras() []wrong[film.Camera] {
	var l []wrong[film.Camera]
	for _, p := range badVectors(film.MaxPlace) {
		l = append(l, wrong[film.Camera]{film.Camera{At: p}, api.ErrRange}, wrong[film.Camera]{film.Camera{At: p, Turn: plain, Focal: 1}, api.ErrRange})
	}
	for _, b := range badTurns() {
		l = append(l, wrong[film.Camera]{film.Camera{Turn: b.x}, b.e}, wrong[film.Camera]{film.Camera{Turn: b.x, Focal: 1}, b.e})
	}
	for _, n := range outside(1, film.MaxFocal) {
		l = append(l, wrong[film.Camera]{film.Camera{Turn: plain, Focal: n}, api.ErrRange})
	}
	return l
}

// badCameraLists has cameras in the order of their errors.
func badCameraLists() []wrong[[]film.Camera] {
	l := []wrong[[]film.Camera]{
		{make([]film.Camera, film.MaxCameras+1), api.ErrMany}, {slices.Repeat([]film.Camera{first}, film.MaxCameras+1), api.ErrMany},
	}
	for _, b := range badCameras() {
		l = append(l, wrong[[]film.Camera]{[]film.Camera{first, b.x, {At: place(far[0], 0, 0)}}, b.e}, wrong[[]film.Camera]{[]film.Camera{first, b.x, {}}, b.e})
	}
	return l
}

// badSights has sights of two cameras in the order of their errors.
func badSights() []wrong[film.Sight] {
	turned := to(1, 0)
	var l []wrong[film.Sight]
	for _, n := range outside(0, 1) {
		l = append(l, wrong[film.Sight]{film.Sight{Camera: n, X: turned, Y: turned}, api.ErrUnknown}, wrong[film.Sight]{film.Sight{Camera: n}, api.ErrUnknown})
	}
	for _, b := range badIntervals(-film.MaxPixel, film.MaxPixel) {
		l = append(l, wrong[film.Sight]{film.Sight{X: b.x, Y: turned}, b.e}, wrong[film.Sight]{film.Sight{X: b.x, Y: to(far[0], 0)}, b.e}, wrong[film.Sight]{film.Sight{Camera: 1, Y: b.x}, b.e})
	}
	return l
}

// badBoxes has boxes in the order of their errors.
func badBoxes() []wrong[film.Box] {
	turned, large := to(1, 0), to(0, film.MaxBox)
	var l []wrong[film.Box]
	for _, b := range badIntervals(-film.MaxPlace, film.MaxPlace) {
		l = append(l, wrong[film.Box]{film.Box{X: b.x, Y: turned}, b.e}, wrong[film.Box]{film.Box{X: b.x, Z: to(far[0], 0)}, b.e}, wrong[film.Box]{film.Box{Y: b.x, Z: turned}, b.e}, wrong[film.Box]{film.Box{X: large, Y: b.x, Z: to(far[0], 0)}, b.e}, wrong[film.Box]{film.Box{Y: large, Z: b.x}, b.e}, wrong[film.Box]{film.Box{X: large, Z: b.x}, b.e})
	}
	for _, x := range []api.Interval{large, to(-film.MaxPlace, film.MaxPlace), to(-film.MaxBox, 0), to(film.MaxPlace-film.MaxBox, film.MaxPlace)} {
		l = append(l, wrong[film.Box]{film.Box{X: x}, api.ErrLarge}, wrong[film.Box]{film.Box{Y: x}, api.ErrLarge}, wrong[film.Box]{film.Box{Z: x}, api.ErrLarge})
	}
	return l
}

// badSurveys has surveys in the order of their errors.
func badSurveys() []wrong[[]film.Mark] {
	good := mark("a", 1, 2, 3)
	l := []wrong[[]film.Mark]{
		{nil, api.ErrEmpty}, {[]film.Mark{}, api.ErrEmpty}, {make([]film.Mark, film.MaxPoints+1), api.ErrMany}, {slices.Repeat([]film.Mark{good}, film.MaxPoints+1), api.ErrMany},
		{[]film.Mark{good, mark("a", far[0], 0, 0), {}}, api.ErrTwice}, {[]film.Mark{mark("b", 0, 0, 0), good, mark("a", 4, 5, 6)}, api.ErrTwice}, {[]film.Mark{good, good}, api.ErrTwice},
	}
	for _, name := range badNames {
		l = append(l, wrong[[]film.Mark]{[]film.Mark{good, mark(name, far[0], 0, 0), good}, api.ErrName}, wrong[[]film.Mark]{[]film.Mark{mark(name, 0, 0, 0)}, api.ErrName})
	}
	for _, p := range badVectors(film.MaxPlace) {
		l = append(l, wrong[[]film.Mark]{[]film.Mark{good, {Name: "b", At: p}, {}}, api.ErrRange}, wrong[[]film.Mark]{[]film.Mark{{Name: "b", At: p}}, api.ErrRange})
	}
	return l
}

// badFrames has frames in the order of their errors.
func badFrames() []wrong[film.Frame] {
	var l []wrong[film.Frame]
	for _, b := range badTurns() {
		l = append(l, wrong[film.Frame]{film.Frame{Turn: b.x, Shift: place(far[0], 0, 0)}, b.e}, wrong[film.Frame]{film.Frame{Turn: b.x}, b.e})
	}
	for _, p := range badVectors(4 * film.MaxPlace) {
		l = append(l, wrong[film.Frame]{film.Frame{Turn: plain, Shift: p}, api.ErrRange})
	}
	return l
}
