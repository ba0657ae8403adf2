package barrier

import (
	"crumple/api"
	"crumple/check"
	"crumple/interval"
	"crumple/lists"
	"crumple/quotient"
	"crumple/record"
)

// second is the microseconds of a second.
const second = 1000000

// whole is the overlap of all of a car, in thousandths.
const whole = 1000

// CheckGates returns the first error of gates, or OK.
func CheckGates(l []Gate) api.Errno {
	// The first gate comes after one that is below all ranges.
	before := Gate{Place: -1, Time: interval.Only(-1)}
	return check.First(
		check.When(len(l) < 2, api.ErrShort),
		check.When(len(l) > MaxGates, api.ErrMany),
		check.Each(l, func(g Gate) api.Errno {
			e := check.First(
				check.Within(g.Place, 0, MaxPlace),
				check.Interval(g.Time, 0, api.MaxTick),
				check.When(!g.follows(before), api.ErrOrder),
			)
			before = g
			return e
		}),
	)
}

// follows reports whether a gate comes after another one: it need not be moved to be behind it, nor to be later.
func (g Gate) follows(before Gate) bool {
	moved := g
	moved.Place = max(g.Place, before.Place+1)
	moved.Time.Low = max(g.Time.Low, before.Time.High+1)
	return moved == g
}

// speedTo returns the speed between a gate and the next one.
func (g Gate) speedTo(next Gate) api.Interval {
	way := (next.Place - g.Place) * second
	return api.Interval{
		Low:  quotient.Down(way, next.Time.High-g.Time.Low),
		High: quotient.Up(way, next.Time.Low-g.Time.High),
	}
}

// Speeds returns the speeds between successive gates.
func Speeds(l []Gate) ([]api.Interval, api.Errno) {
	if e := CheckGates(l); e != api.OK {
		return nil, e
	}
	var speeds []api.Interval
	for i, next := range l[1:] {
		speeds = append(speeds, l[i].speedTo(next))
	}
	return speeds, api.OK
}

// Speed returns the speed of gates.
func Speed(l []Gate) (api.Interval, api.Errno) {
	speeds, e := Speeds(l)
	if e != api.OK {
		return api.Interval{}, e
	}
	speed := speeds[0]
	for _, x := range speeds {
		speed = interval.Common(speed, x)
	}
	if speed.Low > speed.High {
		return api.Interval{}, api.ErrConflict
	}
	return speed, api.OK
}

// checkAcross returns ErrSpan if a span of places is empty, or not on the track, or OK.
func checkAcross(s api.Span) api.Errno {
	return check.When(s.From < 0 || s.To <= s.From || s.To > MaxPlace, api.ErrSpan)
}

// Overlap returns the overlap of a car with a barrier.
func Overlap(car, barrier api.Span) (api.Ratio, api.Errno) {
	if e := check.First(checkAcross(car), checkAcross(barrier)); e != api.OK {
		return api.Ratio{}, e
	}
	common := min(car.To, barrier.To) - max(car.From, barrier.From)
	if common <= 0 {
		return api.Ratio{}, api.ErrNone
	}
	return quotient.Ratio(common, car.To-car.From), api.OK
}

// checkClasses returns the first error of classes, or OK.
func checkClasses(l []Class) api.Errno {
	names := check.Names{}
	return check.First(
		check.When(len(l) > MaxClasses, api.ErrMany),
		check.Each(l, func(c Class) api.Errno {
			return check.First(
				check.Name(c.Name),
				names.Take(c.Name),
				check.Interval(c.Speed, 0, MaxSpeed),
				check.Interval(c.Overlap, 0, whole),
			)
		}),
	)
}

// checkOverlap returns the first error of an overlap, or OK.
func checkOverlap(x api.Ratio) api.Errno {
	return check.First(record.CheckRatio(x), check.Within(x.Num, 0, x.Den))
}

// overlaps reports whether an overlap is one of a class.
func (c Class) overlaps(x api.Ratio) bool {
	return check.Within(x.Num*whole, c.Overlap.Low*x.Den, c.Overlap.High*x.Den) == api.OK
}

// Classes returns the names of the classes that a test is of for sure, and that it may be of.
func Classes(l []Class, speed api.Interval, overlap api.Ratio) ([]string, []string, api.Errno) {
	e := check.First(
		checkClasses(l),
		check.Interval(speed, 0, MaxSpeed),
		checkOverlap(overlap),
	)
	if e != api.OK {
		return nil, nil, e
	}
	overlapping := lists.Kept(l, func(c Class) bool { return c.overlaps(overlap) })
	sure := lists.Kept(overlapping, func(c Class) bool { return interval.Has(c.Speed, speed) })
	possible := lists.Kept(overlapping, func(c Class) bool { return interval.Meet(c.Speed, speed) })
	return lists.Mapped(sure, Class.name), lists.Mapped(possible, Class.name), api.OK
}

func (c Class) name() string {
	return c.Name
}
