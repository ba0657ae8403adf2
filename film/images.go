package film

import (
	"cmp"
	"iter"
	"slices"

	"crumple/api"
	"crumple/check"
	"crumple/interval"
	"crumple/lists"
)

// spot is a pixel at which a marker fits, with its difference there.
type spot struct {
	at         api.Point
	difference int
}

// CheckImage returns the first error of an image, or OK.
func CheckImage(x Image) api.Errno {
	return check.First(
		check.Within(x.Width, 1, MaxSide),
		check.Within(x.Height, 1, MaxSide),
		check.When(len(x.Pixels) != x.Width*x.Height, api.ErrShape),
		check.Each(x.Pixels, func(light int) api.Errno { return check.Within(light, 0, MaxLight) }),
	)
}

// size returns the width and the height of an image.
func (x Image) size() api.Point {
	return api.Point{X: x.Width, Y: x.Height}
}

// checkImages returns the first error of images, or OK.
func checkImages(l []Image) api.Errno {
	return check.First(
		check.Count(len(l), MaxImages),
		check.Each(l, func(x Image) api.Errno {
			return check.First(CheckImage(x), check.When(x.size() != l[0].size(), api.ErrShape))
		}),
	)
}

// checkMarker returns the first error of a marker of images of a size, or OK.
func checkMarker(marker Image, size api.Point) api.Errno {
	return check.First(
		CheckImage(marker),
		check.When(marker.Width > size.X || marker.Height > size.Y, api.ErrShape),
	)
}

// checkSpot returns ErrUnknown if a marker does not fit at a pixel of images of a size, or OK.
func checkSpot(marker Image, size, at api.Point) api.Errno {
	e := check.First(
		check.Within(at.X, 0, size.X-marker.Width),
		check.Within(at.Y, 0, size.Y-marker.Height),
	)
	return check.When(e != api.OK, api.ErrUnknown)
}

// pixels visits the pixels of an image, row by row.
func (x Image) pixels() iter.Seq2[api.Point, int] {
	return func(visit func(api.Point, int) bool) {
		for i, light := range x.Pixels {
			if !visit(api.Point{X: i % x.Width, Y: i / x.Width}, light) {
				return
			}
		}
	}
}

// difference returns the difference of a marker at a pixel at which it fits.
func (x Image) difference(marker Image, at api.Point) int {
	sum := 0
	for p, light := range marker.pixels() {
		under := x.Pixels[(at.Y+p.Y)*x.Width+at.X+p.X]
		sum += (light - under) * (light - under)
	}
	return sum
}

// Difference returns the difference of a marker at a pixel.
func Difference(x, marker Image, at api.Point) (int, api.Errno) {
	size := x.size()
	e := check.First(CheckImage(x), checkMarker(marker, size), checkSpot(marker, size, at))
	if e != api.OK {
		return 0, e
	}
	return x.difference(marker, at), api.OK
}

// spots returns all pixels at which a marker fits, row by row.
func (x Image) spots(marker Image) []spot {
	var l []spot
	for p := range x.pixels() {
		if checkSpot(marker, x.size(), p) == api.OK {
			l = append(l, spot{at: p, difference: x.difference(marker, p)})
		}
	}
	return l
}

// compare compares two pixels by the differences there.
func (s spot) compare(other spot) int {
	return cmp.Compare(s.difference, other.difference)
}

// best returns the first one of the pixels with the least difference.
func best(l []spot) spot {
	return slices.MinFunc(l, spot.compare)
}

// Found returns the pixel at which a marker is found, and its margin.
func Found(x, marker Image) (api.Point, int, api.Errno) {
	if e := check.First(CheckImage(x), checkMarker(marker, x.size())); e != api.OK {
		return api.Point{}, 0, e
	}
	spots := x.spots(marker)
	found := best(spots)
	others := lists.Kept(spots, func(s spot) bool { return s.at != found.at })
	if len(others) == 0 {
		return found.at, 0, api.OK
	}
	return found.at, best(others).difference - found.difference, api.OK
}

// near reports whether a pixel is within the reach of another one.
func near(p, from api.Point, reach int) bool {
	return interval.Has(interval.Around(from.X, reach), interval.Only(p.X)) &&
		interval.Has(interval.Around(from.Y, reach), interval.Only(p.Y))
}

// sizeOf returns the size of the first one of images.
func sizeOf(l []Image) api.Point {
	if len(l) == 0 {
		return api.Point{}
	}
	return l[0].size()
}

// Tracked returns a pixel of a marker for each image.
func Tracked(images []Image, marker Image, from api.Point, reach int) ([]api.Point, api.Errno) {
	size := sizeOf(images)
	e := check.First(
		checkImages(images),
		checkMarker(marker, size),
		checkSpot(marker, size, from),
		check.Within(reach, 0, MaxSide),
	)
	if e != api.OK {
		return nil, e
	}
	track := lists.Mapped(images, func(x Image) api.Point {
		within := lists.Kept(x.spots(marker), func(s spot) bool { return near(s.at, from, reach) })
		from = best(within).at
		return from
	})
	return track, api.OK
}
