package garage

import (
	"iter"
	"slices"

	"crumple/api"
	"crumple/check"
)

// order is the indices of jobs that are placed, one after the other, and the starts of all jobs by their indices.
type order struct {
	indices []int
	starts  []int
}

// planned is an order with its end.
type planned struct {
	order
	end int
}

// checkOrder returns the first error of an order of some jobs, or OK.
func checkOrder(indices []int, jobs int) api.Errno {
	taken := map[int]bool{}
	return check.First(check.When(len(indices) != jobs, api.ErrShape), check.Each(indices, func(i int) api.Errno {
		e := check.First(
			check.When(i < 0 || i >= jobs, api.ErrUnknown),
			check.When(taken[i], api.ErrTwice),
		)
		taken[i] = true
		return e
	}))
}

// unplaced returns an order in which none of some jobs is placed.
func unplaced(jobs int) planned {
	return planned{order: order{starts: make([]int, jobs)}}
}

// place places a job after all those that were placed before.
func (p *planned) place(l []Job, index int) {
	start := 0
	for _, before := range p.indices {
		start = max(start, l[before].free(p.starts[before], l[index]))
	}
	p.indices = append(p.indices, index)
	p.starts[index] = start
	p.end = max(p.end, start+l[index].Time)
}

// Starts returns the starts of jobs that are placed in an order.
func Starts(l []Job, order []int) ([]int, api.Errno) {
	if e := check.First(CheckJobs(l), checkOrder(order, len(l))); e != api.OK {
		return nil, e
	}
	p := unplaced(len(l))
	for _, index := range order {
		p.place(l, index)
	}
	return p.starts, api.OK
}

// following returns the order of indices that follows one, and whether there is one.
func following(indices []int) ([]int, bool) {
	// From the index behind this one on they only descend.
	at := len(indices) - 2
	for at >= 0 && indices[at] > indices[at+1] {
		at--
	}
	if at < 0 {
		return nil, false
	}
	next := slices.Clone(indices)
	greater := len(next) - 1
	for next[greater] < next[at] {
		greater--
	}
	next[at], next[greater] = next[greater], next[at]
	slices.Reverse(next[at+1:])
	return next, true
}

// orders visits all orders of some jobs, in their order.
func orders(jobs int) iter.Seq[[]int] {
	return func(visit func([]int) bool) {
		var indices []int
		for i := range jobs {
			indices = append(indices, i)
		}
		for more := true; more && visit(indices); {
			indices, more = following(indices)
		}
	}
}

// best returns the best order of jobs.
func best(l []Job) planned {
	bound := bound(l)
	// No order ends as late as this.
	best := planned{end: MaxWait}
search:
	for indices := range orders(len(l)) {
		p := unplaced(len(l))
		for _, index := range indices {
			p.place(l, index)
			if p.end >= best.end {
				continue search
			}
		}
		best = p
		if best.end == bound {
			break search
		}
	}
	return best
}

// Plan returns the best order of jobs, and its end.
func Plan(l []Job) ([]int, int, api.Errno) {
	if e := CheckJobs(l); e != api.OK {
		return nil, 0, e
	}
	p := best(l)
	return p.indices, p.end, api.OK
}
