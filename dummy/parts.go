package dummy

import (
	"iter"

	"crumple/api"
	"crumple/check"
	"crumple/lists"
	"crumple/quotient"
)

// tree is parts in their order, and by their names.
type tree struct {
	parts []Part
	named map[string]Part
}

// grown returns the tree of parts.
func grown(l []Part) tree {
	named := make(map[string]Part, len(l))
	for _, p := range l {
		named[p.Name] = p
	}
	return tree{parts: l, named: named}
}

// CheckParts returns the first error of parts, or OK.
func CheckParts(l []Part) api.Errno {
	before := check.Names{}
	return check.First(
		check.Count(len(l), MaxParts),
		check.Each(l, func(p Part) api.Errno {
			e := check.First(check.Name(p.Name), check.When(before[p.Name], api.ErrTwice), p.checkParent(before), p.check())
			before[p.Name] = true
			return e
		}),
	)
}

// checkParent returns the error of a part's parent, by the names of the parts before it, or OK.
func (p Part) checkParent(before check.Names) api.Errno {
	if len(before) == 0 {
		return check.When(p.Parent != "", api.ErrConflict)
	}
	return check.When(!before[p.Parent], api.ErrUnknown)
}

// check returns the first error of a part's mass, joint and corridor, or OK.
func (p Part) check() api.Errno {
	return check.First(
		check.Within(p.Mass, 1, MaxMass),
		checkVector(p.Joint, MaxPlace),
		check.Count(len(p.Corridor), MaxValues),
		check.Each(p.Corridor, func(x api.Interval) api.Errno { return check.Interval(x, -MaxValue, MaxValue) }),
	)
}

// checkPart returns ErrUnknown if no part has a name, or OK.
func (t tree) checkPart(name string) api.Errno {
	_, known := t.named[name]
	return check.When(!known, api.ErrUnknown)
}

// chain visits a part, its parent, and so on, up to the root.
func (t tree) chain(name string) iter.Seq[Part] {
	return func(visit func(Part) bool) {
		// No part has the empty name, which the root has in place of a parent.
		for p, known := t.named[name]; known; p, known = t.named[p.Parent] {
			if !visit(p) {
				return
			}
		}
	}
}

// hangs reports whether the chain of a part has another one.
func (t tree) hangs(name, other string) bool {
	for p := range t.chain(name) {
		if p.Name == other {
			return true
		}
	}
	return false
}

// chainNames returns the names of a chain.
func (t tree) chainNames(name string) []string {
	var names []string
	for p := range t.chain(name) {
		names = append(names, p.Name)
	}
	return names
}

// branch returns the parts of a branch; there are none if the part is none.
func (t tree) branch(name string) []Part {
	return lists.Kept(t.parts, func(p Part) bool { return t.hangs(p.Name, name) })
}

// branchNames returns the names of a branch.
func (t tree) branchNames(name string) []string {
	return lists.Mapped(t.branch(name), Part.name)
}

func (p Part) name() string {
	return p.Name
}

// place returns the sum of the joints of a chain.
func (t tree) place(name string) api.Vector {
	var sum api.Vector
	for p := range t.chain(name) {
		sum.X += p.Joint.X
		sum.Y += p.Joint.Y
		sum.Z += p.Joint.Z
	}
	return sum
}

// mass returns the mass of a branch.
func (t tree) mass(name string) int {
	sum := 0
	for _, p := range t.branch(name) {
		sum += p.Mass
	}
	return sum
}

// centre returns the centre of a branch; it is no ratios at all if the part is none.
func (t tree) centre(name string) [3]api.Ratio {
	var moments [3]int
	for _, p := range t.branch(name) {
		at := t.place(p.Name)
		for axis, x := range [...]int{at.X, at.Y, at.Z} {
			moments[axis] += p.Mass * x
		}
	}
	var centre [3]api.Ratio
	if mass := t.mass(name); mass > 0 {
		for axis, m := range moments {
			centre[axis] = quotient.Ratio(m, mass)
		}
	}
	return centre
}

// answered returns what a tree answers of a part.
func answered[A any](l []Part, part string, answer func(tree, string) A) (A, api.Errno) {
	var none A
	if e := CheckParts(l); e != api.OK {
		return none, e
	}
	t := grown(l)
	if e := t.checkPart(part); e != api.OK {
		return none, e
	}
	return answer(t, part), api.OK
}

// Chain returns the names of the parts from a part to the root.
func Chain(l []Part, part string) ([]string, api.Errno) {
	return answered(l, part, tree.chainNames)
}

// Branch returns the names of the parts of a branch.
func Branch(l []Part, part string) ([]string, api.Errno) {
	return answered(l, part, tree.branchNames)
}

// Place returns the place of a part.
func Place(l []Part, part string) (api.Vector, api.Errno) {
	return answered(l, part, tree.place)
}

// Mass returns the mass of a branch.
func Mass(l []Part, part string) (int, api.Errno) {
	return answered(l, part, tree.mass)
}

// Centre returns the centre of a branch.
func Centre(l []Part, part string) ([3]api.Ratio, api.Errno) {
	if e := CheckParts(l); e != api.OK {
		return [3]api.Ratio{}, e
	}
	centre := grown(l).centre(part)
	// The denominators of a centre are above 0.
	return centre, check.When(centre == [3]api.Ratio{}, api.ErrUnknown)
}

// Moment returns the moment about a joint.
func Moment(moment, force, shift api.Vector) (api.Vector, api.Errno) {
	e := check.First(
		checkVector(moment, MaxForce),
		checkVector(force, MaxForce),
		checkVector(shift, MaxPlace),
	)
	if e != api.OK {
		return api.Vector{}, e
	}
	return api.Vector{
		X: moment.X + shift.Y*force.Z - shift.Z*force.Y,
		Y: moment.Y + shift.Z*force.X - shift.X*force.Z,
		Z: moment.Z + shift.X*force.Y - shift.Y*force.X,
	}, api.OK
}
