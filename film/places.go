package film

import (
	"iter"

	"crumple/api"
	"crumple/check"
	"crumple/interval"
)

// axis takes one part of a place, and one side of a box.
type axis struct {
	part func(*api.Vector) *int
	side func(*Box) *api.Interval
}

// axes returns the axes X, Y and Z.
func axes() []axis {
	return []axis{
		{func(v *api.Vector) *int { return &v.X }, func(b *Box) *api.Interval { return &b.X }},
		{func(v *api.Vector) *int { return &v.Y }, func(b *Box) *api.Interval { return &b.Y }},
		{func(v *api.Vector) *int { return &v.Z }, func(b *Box) *api.Interval { return &b.Z }},
	}
}

// checkVector returns ErrRange if a part of a vector is not within a distance from 0, or OK.
func checkVector(v api.Vector, most int) api.Errno {
	return check.Each(axes(), func(a axis) api.Errno { return check.Within(*a.part(&v), -most, most) })
}

// checkPlace returns the error of a place, or OK.
func checkPlace(p api.Vector) api.Errno {
	return checkVector(p, MaxPlace)
}

// shifted returns a place that is moved by a shift.
func shifted(p, shift api.Vector) api.Vector {
	return api.Vector{X: p.X + shift.X, Y: p.Y + shift.Y, Z: p.Z + shift.Z}
}

// way returns the vector from a place to another one.
func way(from, to api.Vector) api.Vector {
	return api.Vector{X: to.X - from.X, Y: to.Y - from.Y, Z: to.Z - from.Z}
}

// check returns the first error of a box, or OK.
func (b Box) check() api.Errno {
	return check.First(
		check.Each(axes(), func(a axis) api.Errno { return check.Interval(*a.side(&b), -MaxPlace, MaxPlace) }),
		check.Each(axes(), func(a axis) api.Errno {
			side := a.side(&b)
			return check.When(side.High-side.Low >= MaxBox, api.ErrLarge)
		}),
	)
}

// around returns the box of all places whose parts differ by at most a distance from those of a place.
func around(p api.Vector, distance int) Box {
	var b Box
	for _, a := range axes() {
		*a.side(&b) = interval.Around(*a.part(&p), distance)
	}
	return b
}

// nearest returns the place of a box that is nearest to a place.
func (b Box) nearest(p api.Vector) api.Vector {
	for _, a := range axes() {
		part, side := a.part(&p), a.side(&b)
		*part = min(max(*part, side.Low), side.High)
	}
	return p
}

// has reports whether a place is in a box.
func (b Box) has(p api.Vector) bool {
	return b.nearest(p) == p
}

// with returns the least box that has a box and a place.
func (b Box) with(p api.Vector) Box {
	for _, a := range axes() {
		part, side := a.part(&p), a.side(&b)
		*side = api.Interval{Low: min(side.Low, *part), High: max(side.High, *part)}
	}
	return b
}

// places visits all places of a box.
func (b Box) places() iter.Seq[api.Vector] {
	return func(visit func(api.Vector) bool) {
		for x := b.X.Low; x <= b.X.High; x++ {
			for y := b.Y.Low; y <= b.Y.High; y++ {
				for z := b.Z.Low; z <= b.Z.High; z++ {
					if !visit(api.Vector{X: x, Y: y, Z: z}) {
						return
					}
				}
			}
		}
	}
}
