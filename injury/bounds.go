package injury

import (
	"slices"

	"crumple/api"
	"crumple/check"
	"crumple/lists"
	"crumple/quotient"
)

// reach stands for an end that is open: a window with an integer as low as -reach has no sum above 0, whatever its other integers are.
const reach = MaxSeries * api.MaxUnit

// side is a sign of a margin, and the condition for it.
type side struct {
	sign  int
	holds func(b Bounds, limit api.Ratio) bool
}

// CheckTrace returns the first error of a trace, or OK.
func CheckTrace(l []Value) api.Errno {
	return check.First(check.Count(len(l), MaxSeries), check.Each(l, func(v Value) api.Errno {
		return check.Interval(api.Interval{Low: v.Low, High: v.High}, -api.MaxUnit, api.MaxUnit)
	}))
}

// high returns the greatest integer of a value without what is open.
func (v Value) high() int {
	return v.High
}

// least returns the least integer that a value can have, -reach if there is none.
func (v Value) least() int {
	if v.Under {
		return -reach
	}
	return v.Low
}

// most returns the greatest integer that a value can have, reach if there is none.
func (v Value) most() int {
	if v.Over {
		return reach
	}
	return v.High
}

// leastAbsolute returns the least absolute value that a value can have.
func (v Value) leastAbsolute() int {
	return max(0, v.least(), -v.most())
}

// mostAbsolute returns the greatest absolute value of a value without what is open.
func (v Value) mostAbsolute() int {
	return max(v.High, -v.Low)
}

// isOver reports whether a value may be greater than it was measured.
func (v Value) isOver() bool {
	return v.Over
}

// isOpen reports whether a value may be less, or greater, than it was measured.
func (v Value) isOpen() bool {
	return v.Under || v.Over
}

// BestBounds returns the bounds of the worth of the best window of a trace.
func BestBounds(l []Value, lengths api.Interval) (Bounds, api.Errno) {
	e := check.First(CheckTrace(l), checkLengths(lengths), checkEnough(len(l), lengths.Low))
	if e != api.OK {
		return Bounds{}, e
	}
	return Bounds{
		Low:  best(lists.Mapped(l, Value.least), lengths).worth,
		High: best(lists.Mapped(l, Value.high), lengths).worth,
		Open: slices.ContainsFunc(l, Value.isOver),
	}, api.OK
}

// HeldBounds returns the bounds of the level that a trace holds.
func HeldBounds(l []Value, samples int) (Bounds, api.Errno) {
	if e := check.First(CheckTrace(l), checkSamples(samples), checkEnough(len(l), samples)); e != api.OK {
		return Bounds{}, e
	}
	low, _ := held(lists.Mapped(l, Value.least), samples)
	high, _ := held(lists.Mapped(l, Value.high), samples)
	return Bounds{
		Low:  whole(max(0, low)),
		High: whole(max(0, high)),
		Open: slices.ContainsFunc(l, Value.isOver),
	}, api.OK
}

// CombinedBounds returns the bounds of the greatest sum of two traces by their limits.
func CombinedBounds(a, b []Value, limits [2]int) (Bounds, api.Errno) {
	if e := check.First(checkPair(a, b, CheckTrace), checkLimits(limits)); e != api.OK {
		return Bounds{}, e
	}
	of := func(end func(Value) int) api.Ratio {
		_, sum := greatest(combined(lists.Mapped(a, end), lists.Mapped(b, end), limits))
		return sum
	}
	return Bounds{
		Low:  of(Value.leastAbsolute),
		High: of(Value.mostAbsolute),
		Open: slices.ContainsFunc(slices.Concat(a, b), Value.isOpen),
	}, api.OK
}

// check returns the first error of bounds, or OK.
func (b Bounds) check() api.Errno {
	return check.First(
		checkSize(b.Low),
		checkSize(b.High),
		check.When(quotient.Compare(b.Low, b.High) > 0, api.ErrOrder),
	)
}

// isBelow reports whether all that is within bounds is below a limit.
func (b Bounds) isBelow(limit api.Ratio) bool {
	return quotient.Compare(b.High, limit) < 0 && !b.Open
}

// isAbove reports whether all that is within bounds is above a limit.
func (b Bounds) isAbove(limit api.Ratio) bool {
	return quotient.Compare(b.Low, limit) > 0
}

// isAny holds for all bounds.
func (b Bounds) isAny(api.Ratio) bool {
	return true
}

// sides returns the signs of margins; the first one whose condition holds is the margin.
func sides() []side {
	return []side{
		{-1, Bounds.isBelow},
		{1, Bounds.isAbove},
		{0, Bounds.isAny},
	}
}

// Margin returns on which side of a limit bounds are.
func Margin(b Bounds, limit api.Ratio) (int, api.Errno) {
	if e := check.First(b.check(), checkSize(limit)); e != api.OK {
		return 0, e
	}
	l := sides()
	at := slices.IndexFunc(l, func(s side) bool { return s.holds(b, limit) })
	return l[at].sign, api.OK
}
