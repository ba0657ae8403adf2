package film_test

import (
	"fmt"
	"slices"
	"testing"

	"crumple/api"
	"crumple/film"
)

// P5.2 (images): each function with ordinary inputs, at its limits, and with its errors in their order.

// shot is the image, and label the marker, of the chapter's examples.
func shot() film.Image { return image([]int{0, 0, 0}, []int{0, 9, 8}, []int{0, 7, 9}) }

func label() film.Image { return image([]int{9, 8}) }

func TestDifference(t *testing.T) {
	for _, x := range []struct {
		x, marker  film.Image
		at         api.Point
		difference int
	}{
		{shot(), label(), at(0, 0), 145}, {shot(), label(), at(1, 0), 145}, {shot(), label(), at(0, 1), 82}, {shot(), label(), at(1, 1), 0}, {shot(), label(), at(0, 2), 82}, {shot(), label(), at(1, 2), 5},
		{shot(), shot(), at(0, 0), 0}, {shot(), image([]int{9}), at(2, 2), 0}, {shot(), image([]int{9}), at(0, 0), 81}, {shot(), image([]int{1}, []int{5}), at(2, 0), 10}, {shot(), image([]int{1}, []int{5}), at(2, 1), 65}, {shot(), image([]int{1, 2}, []int{3, 4}), at(1, 1), 64 + 36 + 16 + 25},
		{even(1, 1, 0), even(1, 1, film.MaxLight), at(0, 0), 65025}, {even(film.MaxSide, film.MaxSide, film.MaxLight), even(film.MaxSide, film.MaxSide, 0), at(0, 0), 66585600},
		// Images that are wider than they are high.
		{image([]int{1, 2, 3, 4}, []int{5, 6, 7, 8}), image([]int{6, 7, 8}), at(1, 1), 0}, {image([]int{1, 2, 3, 4}, []int{5, 6, 7, 8}), image([]int{2}, []int{5}), at(2, 0), 1 + 4},
	} {
		difference, e := film.Difference(x.x, x.marker, x.at)
		wantOK(t, fmt.Sprintf("Difference of %v in %v at %v", x.marker, x.x, x.at), difference, e, x.difference)
	}
}

func TestFound(t *testing.T) {
	for _, x := range []struct {
		x, marker film.Image
		at        api.Point
		margin    int
	}{
		{shot(), label(), at(1, 1), 5}, {shot(), shot(), at(0, 0), 0}, {shot(), image([]int{7}), at(1, 2), 1}, {shot(), image([]int{8}), at(2, 1), 1}, {shot(), image([]int{9}), at(1, 1), 0},
		// Of several ones it is the first one, by rows, then by columns.
		{shot(), image([]int{0}), at(0, 0), 0}, {even(3, 2, 4), image([]int{6}), at(0, 0), 0}, {image([]int{5, 5, 1}, []int{1, 5, 5}), image([]int{1}), at(2, 0), 0}, {image([]int{5, 5, 5}, []int{5, 1, 5}, []int{1, 5, 5}), image([]int{0}), at(1, 1), 0}, {image([]int{5, 1}, []int{1, 5}), image([]int{1}), at(1, 0), 0},
		// The last row, and the last column.
		{image([]int{0, 0}, []int{0, 3}), image([]int{3}), at(1, 1), 9}, {image([]int{1, 2, 3}), image([]int{2, 3}), at(1, 0), 2}, {image([]int{1}, []int{2}, []int{3}), image([]int{2}, []int{3}), at(0, 1), 2},
		// No pixel is as the marker is.
		{shot(), image([]int{9, 9}, []int{9, 9}), at(1, 1), 81 + 81 + 0 + 1 - 5}, {image([]int{10, 30}), image([]int{19}), at(0, 0), 121 - 81}, {image([]int{10, 30}), image([]int{20}), at(0, 0), 0}, {image([]int{10, 30}), image([]int{21}), at(1, 0), 121 - 81},
		{even(film.MaxSide, film.MaxSide, 0), even(film.MaxSide, film.MaxSide, 1), at(0, 0), 0}, {even(film.MaxSide, film.MaxSide, 0), even(film.MaxSide, film.MaxSide-1, 1), at(0, 0), 0},
		{even(5, 1, 0), even(4, 1, film.MaxLight), at(0, 0), 0}, {even(1, 5, 0), even(1, 4, film.MaxLight), at(0, 0), 0},
	} {
		found, margin, e := film.Found(x.x, x.marker)
		wantOK(t, fmt.Sprintf("Found of %v in %v", x.marker, x.x), pair[api.Point, int]{found, margin}, e, pair[api.Point, int]{x.at, x.margin})
	}
}

func TestTracked(t *testing.T) {
	next := image([]int{0, 0, 0}, []int{9, 8, 0}, []int{0, 0, 0})
	lone := []film.Image{image([]int{9, 0, 0, 0, 0}), image([]int{0, 9, 0, 0, 0}), image([]int{0, 0, 0, 9, 0}), image([]int{0, 0, 9, 0, 0})}
	column := []film.Image{image([]int{0}, []int{0}, []int{9}), image([]int{9}, []int{0}, []int{0}), image([]int{0}, []int{9}, []int{0})}
	for _, x := range []struct {
		images []film.Image
		marker film.Image
		from   api.Point
		reach  int
		track  []api.Point
	}{
		{[]film.Image{shot(), next}, label(), at(1, 1), 1, []api.Point{at(1, 1), at(0, 1)}},
		// Without a reach nothing moves.
		{[]film.Image{shot(), next}, label(), at(1, 0), 0, []api.Point{at(1, 0), at(1, 0)}}, {[]film.Image{shot(), next}, label(), at(0, 0), 1, []api.Point{at(1, 1), at(0, 1)}}, {[]film.Image{next, shot()}, label(), at(0, 2), film.MaxSide, []api.Point{at(0, 1), at(1, 1)}},
		// The third image has it too far away, as seen from the second one; all others are alike, so that the first one within the reach is taken.
		{lone, image([]int{9}), at(1, 0), 1, []api.Point{at(0, 0), at(1, 0), at(0, 0), at(0, 0)}}, {lone, image([]int{9}), at(1, 0), 2, []api.Point{at(0, 0), at(1, 0), at(3, 0), at(2, 0)}}, {lone, image([]int{9}), at(4, 0), 1, []api.Point{at(3, 0), at(2, 0), at(3, 0), at(2, 0)}}, {lone, image([]int{9}), at(4, 0), 4, []api.Point{at(0, 0), at(1, 0), at(3, 0), at(2, 0)}}, {lone, image([]int{9}), at(4, 0), 3, []api.Point{at(1, 0), at(1, 0), at(3, 0), at(2, 0)}},
		{column, image([]int{9}), at(0, 1), 1, []api.Point{at(0, 2), at(0, 1), at(0, 1)}}, {column, image([]int{9}), at(0, 0), 1, []api.Point{at(0, 0), at(0, 0), at(0, 1)}}, {column, image([]int{9}), at(0, 0), 2, []api.Point{at(0, 2), at(0, 0), at(0, 1)}},
		{[]film.Image{shot()}, shot(), at(0, 0), film.MaxSide, []api.Point{at(0, 0)}},
	} {
		track, e := film.Tracked(x.images, x.marker, x.from, x.reach)
		wantOK(t, fmt.Sprintf("Tracked of %v in %v from %v within %d", x.marker, x.images, x.from, x.reach), track, e, x.track)
	}
	var many []film.Image
	for range film.MaxImages {
		many = append(many, even(film.MaxSide, film.MaxSide, 3))
	}
	track, e := film.Tracked(many, even(16, 16, 4), at(16, 16), 1)
	want(t, "Tracked in as many images as are permitted", e, api.OK)
	want(t, "the number of pixels", len(track), film.MaxImages)
	want(t, "the last pixel", track[15], at(0, 0))
	want(t, "the second pixel", track[1], at(14, 14))
}

func TestImageErrors(t *testing.T) {
	for _, x := range []film.Image{shot(), even(1, 1, 0), even(film.MaxSide, film.MaxSide, film.MaxLight), even(1, film.MaxSide, 0), even(film.MaxSide, 1, 0)} {
		want(t, "CheckImage", film.CheckImage(x), api.OK)
	}
	for _, b := range badImages() {
		what := fmt.Sprintf(" of %v", b.x)
		want(t, "CheckImage"+what, film.CheckImage(b.x), b.e)
		difference, e := film.Difference(b.x, film.Image{}, at(-1, -1))
		wantError(t, "Difference"+what, difference, e, b.e)
		difference, e = film.Difference(b.x, even(1, 1, 0), at(0, 0))
		wantError(t, "Difference of a marker"+what, difference, e, b.e)
		difference, e = film.Difference(shot(), b.x, at(-1, -1))
		wantError(t, "Difference of the marker"+what, difference, e, b.e)
		found, margin, e := film.Found(b.x, film.Image{})
		wantError(t, "Found"+what, pair[api.Point, int]{found, margin}, e, b.e)
		found, margin, e = film.Found(b.x, even(1, 1, 0))
		wantError(t, "Found of a marker"+what, pair[api.Point, int]{found, margin}, e, b.e)
		found, margin, e = film.Found(shot(), b.x)
		wantError(t, "Found of the marker"+what, pair[api.Point, int]{found, margin}, e, b.e)
		track, e := film.Tracked([]film.Image{shot(), b.x, even(4, 4, 0), {}}, film.Image{}, at(-1, -1), -1)
		wantError(t, "Tracked"+what, track, e, b.e)
		track, e = film.Tracked([]film.Image{b.x}, even(1, 1, 0), at(0, 0), 0)
		wantError(t, "Tracked in one image"+what, track, e, b.e)
		track, e = film.Tracked([]film.Image{shot()}, b.x, at(-1, -1), -1)
		wantError(t, "Tracked of the marker"+what, track, e, b.e)
	}
}

func TestErrorsOfImages(t *testing.T) {
	many := make([]film.Image, film.MaxImages+1)
	for i := range many {
		many[i] = shot()
	}
	for _, b := range []wrong[[]film.Image]{
		{nil, api.ErrEmpty}, {[]film.Image{}, api.ErrEmpty}, {make([]film.Image, film.MaxImages+1), api.ErrMany}, {many, api.ErrMany},
		{[]film.Image{shot(), even(4, 3, 0), {}}, api.ErrShape}, {[]film.Image{shot(), shot(), even(3, 4, 0), {}}, api.ErrShape}, {[]film.Image{even(2, 6, 0), even(3, 4, 0)}, api.ErrShape}, {[]film.Image{even(2, 6, 0), even(6, 2, 0), {}}, api.ErrShape},
	} {
		for _, marker := range []film.Image{{}, even(1, 1, 0), even(7, 1, 0)} {
			track, e := film.Tracked(b.x, marker, at(-1, -1), -1)
			wantError(t, fmt.Sprintf("Tracked in %d images", len(b.x)), track, e, b.e)
		}
	}
}

func TestMarkerErrors(t *testing.T) {
	for _, marker := range []film.Image{even(4, 3, 0), even(3, 4, 0), even(film.MaxSide, 1, 0), even(1, film.MaxSide, 0), even(9, 9, 0)} {
		what := fmt.Sprintf(" of a marker of %d by %d", marker.Width, marker.Height)
		difference, e := film.Difference(shot(), marker, at(-1, -1))
		wantError(t, "Difference"+what, difference, e, api.ErrShape)
		difference, e = film.Difference(shot(), marker, at(0, 0))
		wantError(t, "Difference at a pixel"+what, difference, e, api.ErrShape)
		found, margin, e := film.Found(shot(), marker)
		wantError(t, "Found"+what, pair[api.Point, int]{found, margin}, e, api.ErrShape)
		track, e := film.Tracked([]film.Image{shot()}, marker, at(-1, -1), -1)
		wantError(t, "Tracked"+what, track, e, api.ErrShape)
	}
	// Of 4 by 3 pixels, with a marker of 2 by 2, those to 2, 1 are some.
	x, marker := even(4, 3, 0), even(2, 2, 0)
	bad := []api.Point{at(3, 0), at(0, 2), at(3, 1), at(2, 2), at(-1, 0), at(0, -1), at(-1, -1), at(4, 3)}
	for _, n := range far {
		bad = append(bad, at(n, 0), at(0, n), at(n, n))
	}
	for _, p := range bad {
		difference, e := film.Difference(x, marker, p)
		wantError(t, fmt.Sprintf("Difference at %v", p), difference, e, api.ErrUnknown)
		track, e := film.Tracked([]film.Image{x}, marker, p, -1)
		wantError(t, fmt.Sprintf("Tracked from %v", p), track, e, api.ErrUnknown)
	}
	for _, p := range []api.Point{at(0, 0), at(2, 0), at(0, 1), at(2, 1)} {
		difference, e := film.Difference(x, marker, p)
		wantOK(t, fmt.Sprintf("Difference at %v", p), difference, e, 0)
		for _, reach := range outside(0, film.MaxSide) {
			track, e := film.Tracked([]film.Image{x}, marker, p, reach)
			wantError(t, fmt.Sprintf("Tracked within %d", reach), track, e, api.ErrRange)
		}
	}
}

// differences returns the differences of a marker at all pixels at which it fits, by another way: row by row of the marker.
func differences(x, marker film.Image) map[api.Point]int {
	all := map[api.Point]int{}
	for top := 0; top+marker.Height <= x.Height; top++ {
		for left := 0; left+marker.Width <= x.Width; left++ {
			sum := 0
			for row := range marker.Height {
				under := x.Pixels[(top+row)*x.Width+left:][:marker.Width]
				over := marker.Pixels[row*marker.Width:][:marker.Width]
				for i, light := range over {
					sum += light*light - 2*light*under[i] + under[i]*under[i]
				}
			}
			all[at(left, top)] = sum
		}
	}
	return all
}

// before reports whether a pixel comes before another one: by rows, then by columns.
func before(p, q api.Point) bool {
	return p.Y < q.Y || p.Y == q.Y && p.X < q.X
}

// least returns the first pixel with the least difference within a reach.
func least(all map[api.Point]int, from api.Point, reach int) api.Point {
	best, any := api.Point{}, false
	for p, d := range all {
		if max(p.X-from.X, from.X-p.X, p.Y-from.Y, from.Y-p.Y) > reach {
			continue
		}
		if !any || d < all[best] || d == all[best] && before(p, best) {
			best, any = p, true
		}
	}
	return best
}

func TestMarkersAreFoundByTheDefinition(t *testing.T) {
	r := dice(4)
	for range 1500 {
		width, height := between(r, 1, 7), between(r, 1, 7)
		var images []film.Image
		for range between(r, 1, 4) {
			images = append(images, someImage(r, width, height))
		}
		marker := someImage(r, between(r, 1, width), between(r, 1, height))
		all := differences(images[0], marker)
		for p, wanted := range all {
			difference, e := film.Difference(images[0], marker, p)
			wantOK(t, "Difference", difference, e, wanted)
		}
		best := least(all, at(0, 0), film.MaxSide)
		var others []int
		for p, d := range all {
			if p != best {
				others = append(others, d)
			}
		}
		wanted := pair[api.Point, int]{first: best}
		if len(others) > 0 {
			wanted.second = slices.Min(others) - all[best]
		}
		found, margin, e := film.Found(images[0], marker)
		wantOK(t, fmt.Sprintf("Found of %v in %v", marker, images[0]), pair[api.Point, int]{found, margin}, e, wanted)

		from, reach := at(between(r, 0, width-marker.Width), between(r, 0, height-marker.Height)), r.IntN(4)
		var path []api.Point
		last := from
		for _, x := range images {
			last = least(differences(x, marker), last, reach)
			path = append(path, last)
		}
		track, e := film.Tracked(images, marker, from, reach)
		wantOK(t, fmt.Sprintf("Tracked of %v in %v from %v within %d", marker, images, from, reach), track, e, path)
	}
}
