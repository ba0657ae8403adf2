package film_test

import (
	"fmt"
	"math/big"
	"math/rand/v2"
	"slices"
	"testing"

	"crumple/api"
	"crumple/film"
)

// P5.1 (time): each function with ordinary inputs, at its limits, and with its errors in their order.

func device(name string, num, den, low, high int) film.Device {
	return film.Device{Name: name, Rate: ratio(num, den), Offset: to(low, high)}
}

func flash(tick, low, high int) film.Flash { return film.Flash{Tick: tick, Time: to(low, high)} }

func event(device string, tick int) film.Event { return film.Event{Device: device, Tick: tick} }

// manyDevices returns n devices whose ticks are one common time each.
func manyDevices(n int) []film.Device {
	var l []film.Device
	for i := range n {
		l = append(l, device(fmt.Sprintf("d%d", i), 1, 1, 0, 0))
	}
	return l
}

func TestDevicesThatAreRight(t *testing.T) {
	for _, l := range [][]film.Device{
		nil, {}, devices(), manyDevices(film.MaxDevices),
		{device(longest, film.MaxRate, 1, -film.MaxOffset, film.MaxOffset)}, {device("a", 1, film.MaxRate, film.MaxOffset, film.MaxOffset), device("A", film.MaxRate, film.MaxRate-1, -film.MaxOffset, -film.MaxOffset), device("a_9", 1, 1, 0, 0)},
	} {
		want(t, fmt.Sprintf("CheckDevices of %v", l), film.CheckDevices(l), api.OK)
	}
}

func TestCommon(t *testing.T) {
	for _, x := range []struct {
		d    film.Device
		tick int
		time api.Interval
	}{
		{camDevice(), 3, to(2995, 3005)}, {recDevice(), 10, to(3, 4)}, {recDevice(), 9, to(3, 3)}, {recDevice(), 11, to(3, 4)}, {recDevice(), 0, to(0, 0)}, {camDevice(), 0, to(-5, 5)},
		{device("a", 2, 3, -7, -6), 4, to(-5, -3)}, {device("a", 2, 3, -1, 9), 1, to(-1, 10)}, {device("a", 7, 5, -100, -50), 3, to(-96, -45)},
		{device("a", film.MaxRate, 1, -film.MaxOffset, film.MaxOffset), film.MaxTick, to(9000000000, 11000000000)}, {device("a", 1, film.MaxRate, 0, 0), film.MaxTick, to(100, 100)}, {device("a", 9999, film.MaxRate, 0, 0), film.MaxTick - 1, to(999899, 999900)},
	} {
		time, e := film.Common(x.d, x.tick)
		wantOK(t, fmt.Sprintf("Common of %v at %d", x.d, x.tick), time, e, x.time)
	}
}

func TestFitted(t *testing.T) {
	wide := device("cam", 1000, 1, -1000, 1000)
	thirds := device("rec", 1, 3, -50, 50)
	for _, x := range []struct {
		d       film.Device
		flashes []film.Flash
		offset  api.Interval
	}{
		{wide, []film.Flash{flash(2, 2010, 2030), flash(5, 5000, 5025)}, to(10, 25)}, {wide, []film.Flash{flash(5, 5000, 5025), flash(2, 2010, 2030)}, to(10, 25)}, {wide, []film.Flash{flash(2, 2010, 2030)}, to(10, 30)},
		// The device's own offsets are left, on both sides, on one, or not at all.
		{wide, []film.Flash{flash(0, -film.MaxTime, film.MaxTime)}, to(-1000, 1000)}, {wide, []film.Flash{flash(0, -2000, 3)}, to(-1000, 3)}, {wide, []film.Flash{flash(0, -7, 1001)}, to(-7, 1000)},
		// One offset is left, also one at an end.
		{wide, []film.Flash{flash(1, 1000, 1007), flash(3, 3007, 3009)}, to(7, 7)}, {wide, []film.Flash{flash(1, 2000, 9000)}, to(1000, 1000)}, {wide, []film.Flash{flash(1, -9000, 0)}, to(-1000, -1000)},
		// Thirds are rounded into the interval.
		{thirds, []film.Flash{flash(1, 0, 10)}, to(0, 9)}, {thirds, []film.Flash{flash(2, 0, 10)}, to(0, 9)}, {thirds, []film.Flash{flash(3, 0, 10)}, to(-1, 9)}, {thirds, []film.Flash{flash(1, -10, -5)}, to(-10, -6)}, {thirds, []film.Flash{flash(4, 1, 2)}, to(0, 0)},
		{device("a", 1, film.MaxRate, -film.MaxOffset, film.MaxOffset), []film.Flash{flash(1, -film.MaxOffset, film.MaxOffset)}, to(-film.MaxOffset, film.MaxOffset-1)},
		{device("a", film.MaxRate, 1, -film.MaxOffset, film.MaxOffset), []film.Flash{flash(film.MaxTick, 9000000000, film.MaxTime)}, to(-film.MaxOffset, film.MaxOffset)},
		{camDevice(), slices.Repeat([]film.Flash{flash(1, 1000, 1000)}, film.MaxFlashes), to(0, 0)},
	} {
		offset, e := film.Fitted(x.d, x.flashes)
		wantOK(t, fmt.Sprintf("Fitted of %v with %v", x.d, x.flashes), offset, e, x.offset)
	}
}

func TestNoOffsetIsLeft(t *testing.T) {
	for _, x := range []struct {
		d       film.Device
		flashes []film.Flash
	}{
		{camDevice(), []film.Flash{flash(0, 6, 9)}}, {camDevice(), []film.Flash{flash(0, -9, -6)}}, {camDevice(), []film.Flash{flash(0, -9, 1), flash(2, 2002, 2009)}}, {camDevice(), []film.Flash{flash(0, 1, 1), flash(0, -9, 9), flash(0, 2, 2)}},
		// No integer is between a third and two thirds.
		{recDevice(), []film.Flash{flash(1, 0, 0)}}, {device("a", 1, 3, -9, 9), []film.Flash{flash(1, 1, 1)}}, {device("a", 2, 3, -9, 9), []film.Flash{flash(1, 0, 0)}}, {device("a", 2, 3, -9, 9), []film.Flash{flash(1, 7, 8), flash(3, 8, 8)}},
		{camDevice(), []film.Flash{flash(0, film.MaxTime, film.MaxTime)}}, {camDevice(), []film.Flash{flash(film.MaxTick, -film.MaxTime, -film.MaxTime)}},
	} {
		offset, e := film.Fitted(x.d, x.flashes)
		wantError(t, fmt.Sprintf("Fitted of %v with %v", x.d, x.flashes), offset, e, api.ErrInfeasible)
	}
}

func TestOrder(t *testing.T) {
	for _, x := range []struct {
		a, b  film.Event
		order int
	}{
		{event("cam", 3), event("rec", 9000), 0}, {event("cam", 3), event("rec", 9030), -1}, {event("rec", 9030), event("cam", 3), 1},
		// The common time of the camera is 2995 to 3005: what touches is open.
		{event("cam", 3), event("rec", 9015), 0}, {event("cam", 3), event("rec", 9016), 0}, {event("cam", 3), event("rec", 9018), -1}, {event("cam", 3), event("rec", 8985), 0}, {event("cam", 3), event("rec", 8984), 0}, {event("cam", 3), event("rec", 8982), 1},
		{event("rec", 0), event("rec", 0), 0}, {event("rec", 3), event("rec", 4), 0}, {event("rec", 3), event("rec", 6), -1}, {event("rec", 4), event("rec", 5), 0}, {event("rec", 7), event("rec", 3), 1}, {event("cam", 1), event("cam", 1), 0}, {event("cam", 1), event("cam", 2), -1},
		{event("cam", film.MaxTick), event("rec", film.MaxTick), 1}, {event("cam", 0), event("rec", 0), 0},
	} {
		order, e := film.Order(devices(), x.a, x.b)
		wantOK(t, fmt.Sprintf("Order of %v and %v", x.a, x.b), order, e, x.order)
	}
}

func TestProved(t *testing.T) {
	for _, x := range []struct {
		events           []film.Event
		proved, possible bool
	}{
		{nil, true, true}, {[]film.Event{}, true, true}, {[]film.Event{event("cam", 7)}, true, true},
		{[]film.Event{event("cam", 3), event("rec", 9000), event("rec", 9030)}, false, true}, {[]film.Event{event("cam", 3), event("rec", 9030)}, true, true}, {[]film.Event{event("rec", 9030), event("cam", 3)}, false, false},
		{[]film.Event{event("rec", 0), event("cam", 1), event("rec", 9000), event("cam", 4)}, true, true}, {[]film.Event{event("rec", 0), event("rec", 0)}, false, true},
		// The last two are open, the first two as well, but the first one is later than the last one.
		{[]film.Event{event("rec", 9018), event("cam", 3), event("rec", 8991)}, false, false}, {[]film.Event{event("rec", 9000), event("cam", 3), event("rec", 9000)}, false, true},
		// Only the first one is wrong, or only the last one.
		{[]film.Event{event("cam", 9), event("cam", 1), event("cam", 2)}, false, false}, {[]film.Event{event("cam", 1), event("cam", 2), event("cam", 0)}, false, false}, {[]film.Event{event("cam", 1), event("rec", 3000), event("cam", 2)}, false, true}, {[]film.Event{event("cam", 1), event("cam", 2), event("rec", 6000)}, false, true},
		{slices.Repeat([]film.Event{event("rec", 5)}, film.MaxEvents), false, true},
	} {
		proved, possible, e := film.Proved(devices(), x.events)
		wantOK(t, fmt.Sprintf("Proved of %v", x.events), pair[bool, bool]{proved, possible}, e, pair[bool, bool]{x.proved, x.possible})
	}
	var ticks []film.Event
	for i := range film.MaxEvents {
		ticks = append(ticks, event("cam", 10*i))
	}
	proved, possible, e := film.Proved(devices(), ticks)
	wantOK(t, "Proved of many", pair[bool, bool]{proved, possible}, e, pair[bool, bool]{true, true})
}

func TestDeviceErrors(t *testing.T) {
	for _, b := range badDevices() {
		what := fmt.Sprintf(" of %v", b.x)
		time, e := film.Common(b.x, -1)
		wantError(t, "Common"+what, time, e, b.e)
		time, e = film.Common(b.x, 1)
		wantError(t, "Common at a tick"+what, time, e, b.e)
		offset, e := film.Fitted(b.x, nil)
		wantError(t, "Fitted"+what, offset, e, b.e)
	}
	for _, b := range badDeviceLists() {
		what := fmt.Sprintf(" of %v", b.x)
		want(t, "CheckDevices"+what, film.CheckDevices(b.x), b.e)
		order, e := film.Order(b.x, event("z", -1), event("z", -1))
		wantError(t, "Order"+what, order, e, b.e)
		order, e = film.Order(b.x, event("b", 1), event("b", 1))
		wantError(t, "Order of events"+what, order, e, b.e)
		proved, possible, e := film.Proved(b.x, make([]film.Event, film.MaxEvents+1))
		wantError(t, "Proved"+what, pair[bool, bool]{proved, possible}, e, b.e)
	}
}

func TestTickAndFlashErrors(t *testing.T) {
	for _, tick := range outside(0, film.MaxTick) {
		time, e := film.Common(camDevice(), tick)
		wantError(t, fmt.Sprintf("Common at %d", tick), time, e, api.ErrRange)
	}
	infeasible := flash(1, 0, 0)
	bad := []wrong[[]film.Flash]{{nil, api.ErrEmpty}, {[]film.Flash{}, api.ErrEmpty}, {slices.Repeat([]film.Flash{flash(-1, 1, 0)}, film.MaxFlashes+1), api.ErrMany}, {slices.Repeat([]film.Flash{flash(1, 1000, 1000)}, film.MaxFlashes+1), api.ErrMany}}
	for _, tick := range outside(0, film.MaxTick) {
		bad = append(bad, wrong[[]film.Flash]{[]film.Flash{infeasible, flash(tick, 1, 0), flash(1, 1, 0)}, api.ErrRange})
	}
	for _, b := range badIntervals(-film.MaxTime, film.MaxTime) {
		bad = append(bad, wrong[[]film.Flash]{[]film.Flash{infeasible, {Tick: 1, Time: b.x}, flash(-1, 0, 0)}, b.e}, wrong[[]film.Flash]{[]film.Flash{{Tick: 1, Time: b.x}}, b.e})
	}
	for _, b := range bad {
		offset, e := film.Fitted(camDevice(), b.x)
		wantError(t, fmt.Sprintf("Fitted with %v", b.x), offset, e, b.e)
	}
}

func TestEventErrors(t *testing.T) {
	bad := []wrong[film.Event]{{event("", 1), api.ErrUnknown}, {event("Cam", 1), api.ErrUnknown}, {event("cam ", -1), api.ErrUnknown}, {event("ca", far[0]), api.ErrUnknown}}
	for _, tick := range outside(0, film.MaxTick) {
		bad = append(bad, wrong[film.Event]{event("cam", tick), api.ErrRange})
	}
	for _, b := range bad {
		what := fmt.Sprintf(" of %v", b.x)
		for _, other := range append(bad, wrong[film.Event]{event("rec", 1), api.OK}) {
			order, e := film.Order(devices(), b.x, other.x)
			wantError(t, "Order"+what, order, e, b.e)
			proved, possible, e := film.Proved(devices(), []film.Event{event("cam", 9), event("cam", 1), b.x, other.x})
			wantError(t, "Proved"+what, pair[bool, bool]{proved, possible}, e, b.e)
		}
		order, e := film.Order(devices(), event("rec", 1), b.x)
		wantError(t, "Order, the second one"+what, order, e, b.e)
	}
	for _, l := range [][]film.Event{make([]film.Event, film.MaxEvents+1), slices.Repeat([]film.Event{event("cam", 1)}, film.MaxEvents+1)} {
		proved, possible, e := film.Proved(devices(), l)
		wantError(t, "Proved of too many", pair[bool, bool]{proved, possible}, e, api.ErrMany)
	}
	order, e := film.Order(nil, event("cam", 1), event("cam", 2))
	wantError(t, "Order without devices", order, e, api.ErrUnknown)
	proved, possible, e := film.Proved(nil, nil)
	wantOK(t, "Proved without devices", pair[bool, bool]{proved, possible}, e, pair[bool, bool]{true, true})
}

// someDevice returns a device with a small rate, so that thirds and the like are often rounded.
func someDevice(r *rand.Rand, name string) film.Device {
	for {
		x := device(name, between(r, 1, 12), between(r, 1, 12), 0, 0)
		x.Offset = some(r, -20, 20)
		if film.CheckDevices([]film.Device{x}) == api.OK {
			return x
		}
	}
}

// exact returns the common time of a tick with an offset.
func exact(d film.Device, tick, offset int) *big.Rat {
	time := big.NewRat(int64(tick*d.Rate.Num), int64(d.Rate.Den))
	return time.Add(time, big.NewRat(int64(offset), 1))
}

// inside reports whether a number lies in an interval.
func inside(x *big.Rat, in api.Interval) bool {
	return x.Cmp(big.NewRat(int64(in.Low), 1)) >= 0 && x.Cmp(big.NewRat(int64(in.High), 1)) <= 0
}

func TestCommonIsTheLeastIntervalOfAllOffsets(t *testing.T) {
	r := dice(1)
	for range 2000 {
		d, tick := someDevice(r, "a"), r.IntN(40)
		time, e := film.Common(d, tick)
		want(t, "Common", e, api.OK)
		low, high := exact(d, tick, d.Offset.Low), exact(d, tick, d.Offset.High)
		what := fmt.Sprintf("whether %v has all of %v at %d", time, d, tick)
		want(t, what, inside(low, time) && inside(high, time), true)
		want(t, what+", and no more", inside(low, to(time.Low+1, time.High)) || inside(high, to(time.Low, time.High-1)), false)
	}
}

func TestFittedIsAllOffsetsThatArePossible(t *testing.T) {
	r := dice(2)
	none, some := 0, 0
	for range 3000 {
		d := someDevice(r, "a")
		var flashes []film.Flash
		for range between(r, 1, 3) {
			tick := r.IntN(30)
			middle := tick*d.Rate.Num/d.Rate.Den + between(r, -15, 15)
			flashes = append(flashes, flash(tick, middle-r.IntN(12), middle+r.IntN(12)))
		}
		var left []int
		for offset := d.Offset.Low; offset <= d.Offset.High; offset++ {
			if !slices.ContainsFunc(flashes, func(f film.Flash) bool { return !inside(exact(d, f.Tick, offset), f.Time) }) {
				left = append(left, offset)
			}
		}
		offset, e := film.Fitted(d, flashes)
		what := fmt.Sprintf("Fitted of %v with %v", d, flashes)
		if len(left) == 0 {
			wantError(t, what, offset, e, api.ErrInfeasible)
			none++
			continue
		}
		wantOK(t, what, offset, e, to(left[0], left[len(left)-1]))
		some++
	}
	want(t, "whether there were both", none > 200 && some > 200, true)
}

func TestProvedByTheOrdersOfTwo(t *testing.T) {
	r := dice(3)
	counts := map[pair[bool, bool]]int{}
	for range 3000 {
		l := []film.Device{someDevice(r, "a"), someDevice(r, "b"), someDevice(r, "c")}
		for i := range l {
			l[i].Offset = some(r, -3, 3)
		}
		var events []film.Event
		tick := 0
		for range between(r, 0, 4) {
			events = append(events, event(one(r, l).Name, tick))
			tick += r.IntN(20)
		}
		wanted := pair[bool, bool]{true, true}
		for j := range events {
			for i := range j {
				order, e := film.Order(l, events[i], events[j])
				want(t, "Order", e, api.OK)
				wanted.first = wanted.first && (i+1 < j || order == -1)
				wanted.second = wanted.second && order < 1
			}
		}
		proved, possible, e := film.Proved(l, events)
		wantOK(t, fmt.Sprintf("Proved of %v by %v", events, l), pair[bool, bool]{proved, possible}, e, wanted)
		counts[wanted]++
	}
	want(t, "the number of different results", len(counts), 3)
}
