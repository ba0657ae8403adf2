package film

import (
	"crumple/api"
	"crumple/check"
	"crumple/interval"
	"crumple/lists"
	"crumple/quotient"
	"crumple/record"
)

// clocks is devices by their names.
type clocks map[string]Device

// CheckDevices returns the first error of devices, or OK.
func CheckDevices(l []Device) api.Errno {
	names := check.Names{}
	return check.First(
		check.When(len(l) > MaxDevices, api.ErrMany),
		check.Each(l, func(d Device) api.Errno {
			return check.First(d.check(), names.Take(d.Name))
		}),
	)
}

// check returns the first error of a device, or OK.
func (d Device) check() api.Errno {
	return check.First(
		check.Name(d.Name),
		check.Within(d.Rate.Num, 1, MaxRate),
		check.Within(d.Rate.Den, 1, MaxRate),
		record.CheckRatio(d.Rate),
		check.Interval(d.Offset, -MaxOffset, MaxOffset),
	)
}

// checkTick returns the error of a tick, or OK.
func checkTick(tick int) api.Errno {
	return check.Within(tick, 0, MaxTick)
}

// common returns the common time of a tick.
func (d Device) common(tick int) api.Interval {
	parts := tick * d.Rate.Num
	return api.Interval{
		Low:  quotient.Down(parts, d.Rate.Den) + d.Offset.Low,
		High: quotient.Up(parts, d.Rate.Den) + d.Offset.High,
	}
}

// Common returns the common time of a tick.
func Common(d Device, tick int) (api.Interval, api.Errno) {
	if e := check.First(d.check(), checkTick(tick)); e != api.OK {
		return api.Interval{}, e
	}
	return d.common(tick), api.OK
}

// check returns the first error of a flash, or OK.
func (f Flash) check() api.Errno {
	return check.First(checkTick(f.Tick), check.Interval(f.Time, -MaxTime, MaxTime))
}

// left returns the offsets with which a rate brings a flash into its times.
func (f Flash) left(rate api.Ratio) api.Interval {
	parts := f.Tick * rate.Num
	return api.Interval{
		Low:  quotient.Up(f.Time.Low*rate.Den-parts, rate.Den),
		High: quotient.Down(f.Time.High*rate.Den-parts, rate.Den),
	}
}

// Fitted returns what flashes leave of the offsets of a device.
func Fitted(d Device, flashes []Flash) (api.Interval, api.Errno) {
	e := check.First(
		d.check(),
		check.Count(len(flashes), MaxFlashes),
		check.Each(flashes, Flash.check),
	)
	if e != api.OK {
		return api.Interval{}, e
	}
	offset := d.Offset
	for _, f := range flashes {
		offset = interval.Common(offset, f.left(d.Rate))
	}
	if offset.Low > offset.High {
		return api.Interval{}, api.ErrInfeasible
	}
	return offset, api.OK
}

// byName returns devices by their names.
func byName(l []Device) clocks {
	found := clocks{}
	for _, d := range l {
		found[d.Name] = d
	}
	return found
}

// check returns the first error of an event, or OK.
func (c clocks) check(x Event) api.Errno {
	_, known := c[x.Device]
	return check.First(check.When(!known, api.ErrUnknown), checkTick(x.Tick))
}

// common returns the common time of an event.
func (c clocks) common(x Event) api.Interval {
	return c[x.Device].common(x.Tick)
}

// order returns the order of two common times.
func order(a, b api.Interval) int {
	switch {
	case a.High < b.Low:
		return -1
	case a.Low > b.High:
		return 1
	}
	return 0
}

// Order returns the order of two events.
func Order(l []Device, a, b Event) (int, api.Errno) {
	devices := byName(l)
	if e := check.First(CheckDevices(l), devices.check(a), devices.check(b)); e != api.OK {
		return 0, e
	}
	return order(devices.common(a), devices.common(b)), api.OK
}

// Proved reports whether a list of events is proved, and whether it is possible.
func Proved(l []Device, events []Event) (bool, bool, api.Errno) {
	devices := byName(l)
	e := check.First(
		CheckDevices(l),
		check.When(len(events) > MaxEvents, api.ErrMany),
		check.Each(events, devices.check),
	)
	if e != api.OK {
		return false, false, e
	}
	times := lists.Mapped(events, devices.common)
	proved, possible := true, true
	for i, later := range times {
		for j, earlier := range times[:i] {
			known := order(earlier, later)
			successive := j+1 == i
			proved = proved && !(successive && known != -1)
			possible = possible && known != 1
		}
	}
	return proved, possible, api.OK
}
