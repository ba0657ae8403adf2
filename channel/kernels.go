package channel

import (
	"iter"
	"slices"

	"crumple/api"
	"crumple/check"
	"crumple/interval"
	"crumple/quotient"
	"crumple/record"
)

// mask is weights with their divisor: the first one is for the element at a distance, each further one for the next element.
type mask struct {
	weights  []int
	distance int
	divisor  int
}

// part is a weight for the element at an index.
type part struct {
	at     int
	weight int
}

// CheckKernel returns the first error of a kernel, or OK.
func CheckKernel(k []int) api.Errno {
	return check.First(
		check.When(len(k) == 0, api.ErrEmpty),
		check.When(len(k) > MaxKernel, api.ErrMany),
		check.Each(k, func(w int) api.Errno { return check.Within(w, -MaxWeight, MaxWeight) }),
		check.When(sum(k) <= 0, api.ErrZero),
	)
}

func sum(l []int) int {
	all := 0
	for _, x := range l {
		all += x
	}
	return all
}

// there returns the mask of a kernel that is run once: its weight i is for the element i before.
func there(k []int) mask {
	weights := slices.Clone(k)
	slices.Reverse(weights)
	return mask{weights: weights, distance: 1 - len(k), divisor: sum(k)}
}

// thereAndBack returns the mask of a kernel that is run there and back.
func thereAndBack(k []int) mask {
	sums := map[int]int{}
	for i, a := range k {
		for j, b := range k {
			sums[i-j] += a * b
		}
	}
	m := mask{distance: 1 - len(k), divisor: sum(k) * sum(k)}
	for d := m.distance; d <= -m.distance; d++ {
		m.weights = append(m.weights, sums[d])
	}
	return m
}

// padded visits the weights around an index of a record, each with the index of its sample: beyond an end it is that of the last one there.
func (m mask) padded(n, size int) iter.Seq[part] {
	return func(visit func(part) bool) {
		for i, w := range m.weights {
			at := n + m.distance + i
			if !visit(part{at: min(max(at, 0), size-1), weight: w}) {
				return
			}
		}
	}
}

// Passed returns a record that is filtered once.
func Passed(l []float32, k []int) ([]float32, api.Errno) {
	return filtered(l, k, there)
}

// Filtered returns a record that is filtered there and back.
func Filtered(l []float32, k []int) ([]float32, api.Errno) {
	return filtered(l, k, thereAndBack)
}

// filtered returns a record with the mask of a kernel.
func filtered(l []float32, k []int, masked func([]int) mask) ([]float32, api.Errno) {
	if e := check.First(record.CheckSamples(l), CheckKernel(k)); e != api.OK {
		return nil, e
	}
	m := masked(k)
	all := units(l)
	smooth := make([]float32, 0, len(l))
	for n := range len(l) {
		weighted := 0
		for p := range m.padded(n, len(l)) {
			weighted += p.weight * all[p.at]
		}
		u := quotient.Nearest(weighted, m.divisor)
		if check.Within(u, -api.MaxUnit, api.MaxUnit) != api.OK {
			return nil, api.ErrLarge
		}
		smooth = append(smooth, sample(u))
	}
	return smooth, api.OK
}

// Weights returns the weights of a kernel there and back, and their divisor.
func Weights(k []int) ([]int, int, api.Errno) {
	if e := CheckKernel(k); e != api.OK {
		return nil, 0, e
	}
	m := thereAndBack(k)
	return m.weights, m.divisor, api.OK
}

// Enclosed returns the intervals of values that are filtered there and back.
func Enclosed(l []api.Interval, k []int) ([]api.Interval, api.Errno) {
	if e := check.First(checkSized(l, checkSize), CheckKernel(k)); e != api.OK {
		return nil, e
	}
	m := thereAndBack(k)
	enclosed := make([]api.Interval, 0, len(l))
	for n := range len(l) {
		x := outward().divided(m.spread(l, n), m.divisor)
		if checkSize(x) != api.OK {
			return nil, api.ErrLarge
		}
		enclosed = append(enclosed, x)
	}
	return enclosed, api.OK
}

// spread returns the least and the greatest weighted sum of intervals' numbers around an index.
func (m mask) spread(l []api.Interval, n int) ends {
	var all ends
	for _, p := range m.gathered(n, len(l)) {
		product := products(interval.Only(p.weight), l[p.at])
		all[0] += product[0]
		all[1] += product[1]
	}
	return all
}

// gathered returns the weights around an index, one for each element: a number that is padded cannot be low in one place and high in another.
func (m mask) gathered(n, size int) []part {
	var l []part
	for p := range m.padded(n, size) {
		if last := len(l) - 1; last >= 0 && l[last].at == p.at {
			l[last].weight += p.weight
			continue
		}
		l = append(l, p)
	}
	return l
}
