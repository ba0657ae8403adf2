package film

import (
	"slices"

	"crumple/api"
	"crumple/check"
	"crumple/interval"
	"crumple/quotient"
)

// units is the rows that a turn can have, the greatest one first.
var units = [...][3]int{{1, 0, 0}, {0, 1, 0}, {0, 0, 1}, {0, 0, -1}, {0, -1, 0}, {-1, 0, 0}}

// product returns the sum of the products of the parts of two rows.
func product(a, b [3]int) int {
	return a[0]*b[0] + a[1]*b[1] + a[2]*b[2]
}

// third returns the row that makes a turn of two others.
func third(a, b [3]int) [3]int {
	return [3]int{a[1]*b[2] - a[2]*b[1], a[2]*b[0] - a[0]*b[2], a[0]*b[1] - a[1]*b[0]}
}

// Turns returns all turns.
func Turns() []Turn {
	var l []Turn
	for _, a := range units {
		for _, b := range units {
			if product(a, b) == 0 {
				l = append(l, Turn{a, b, third(a, b)})
			}
		}
	}
	return l
}

// CheckTurn returns the first error of a turn, or OK.
func CheckTurn(t Turn) api.Errno {
	return check.First(
		check.Each(slices.Concat(t[0][:], t[1][:], t[2][:]), func(x int) api.Errno { return check.Within(x, -1, 1) }),
		check.When(!slices.Contains(Turns(), t), api.ErrForm),
	)
}

// turned returns a vector that is multiplied by a turn.
func (t Turn) turned(v api.Vector) api.Vector {
	parts := [3]int{v.X, v.Y, v.Z}
	for row := range len(t) {
		*axes()[row].part(&v) = product(t[row], parts)
	}
	return v
}

// check returns the first error of a camera, or OK.
func (c Camera) check() api.Errno {
	return check.First(checkPlace(c.At), CheckTurn(c.Turn), check.Within(c.Focal, 1, MaxFocal))
}

// view returns a point as a camera has it before it: X and Y times the focal length, and the depth.
func (c Camera) view(p api.Vector) api.Vector {
	v := c.Turn.turned(way(c.At, p))
	return api.Vector{X: v.X * c.Focal, Y: v.Y * c.Focal, Z: v.Z}
}

// Seen returns where a camera sees a point.
func Seen(c Camera, p api.Vector) (api.Ratio, api.Ratio, api.Errno) {
	if e := check.First(c.check(), checkPlace(p)); e != api.OK {
		return api.Ratio{}, api.Ratio{}, e
	}
	v := c.view(p)
	if v.Z <= 0 {
		return api.Ratio{}, api.Ratio{}, api.ErrNone
	}
	return quotient.Ratio(v.X, v.Z), quotient.Ratio(v.Y, v.Z), api.OK
}

// checkCameras returns the first error of cameras, or OK.
func checkCameras(l []Camera) api.Errno {
	return check.First(check.When(len(l) > MaxCameras, api.ErrMany), check.Each(l, Camera.check))
}

// check returns the first error of a sight, or OK.
func (s Sight) check(cameras int) api.Errno {
	return check.First(
		check.When(s.Camera < 0 || s.Camera >= cameras, api.ErrUnknown),
		check.Interval(s.X, -MaxPixel, MaxPixel),
		check.Interval(s.Y, -MaxPixel, MaxPixel),
	)
}

// in reports whether a quotient by a depth lies in an interval.
func in(x api.Interval, part, depth int) bool {
	return interval.Has(interval.Product(x, interval.Only(depth)), interval.Only(part))
}

// agrees reports whether a point agrees with a sight of a camera.
func (c Camera) agrees(s Sight, p api.Vector) bool {
	v := c.view(p)
	return v.Z > 0 && in(s.X, v.X, v.Z) && in(s.Y, v.Y, v.Z)
}

// Agrees reports whether a point agrees with a sight.
func Agrees(cameras []Camera, s Sight, p api.Vector) (bool, api.Errno) {
	if e := check.First(checkCameras(cameras), s.check(len(cameras)), checkPlace(p)); e != api.OK {
		return false, e
	}
	return cameras[s.Camera].agrees(s, p), api.OK
}

// agree reports whether a point agrees with all sights.
func agree(cameras []Camera, sights []Sight, p api.Vector) bool {
	return !slices.ContainsFunc(sights, func(s Sight) bool { return !cameras[s.Camera].agrees(s, p) })
}

// Region returns the number of points of a region, and the least box.
func Region(cameras []Camera, sights []Sight, box Box) (int, Box, api.Errno) {
	e := check.First(
		checkCameras(cameras),
		check.Count(len(sights), MaxSights),
		check.Each(sights, func(s Sight) api.Errno { return s.check(len(cameras)) }),
		box.check(),
	)
	if e != api.OK {
		return 0, Box{}, e
	}
	count, least := 0, Box{}
	for p := range box.places() {
		if !agree(cameras, sights, p) {
			continue
		}
		if count == 0 {
			least = around(p, 0)
		}
		count++
		least = least.with(p)
	}
	return count, least, check.When(count == 0, api.ErrNone)
}
