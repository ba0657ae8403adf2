package barrier_test

import (
	"fmt"
	"testing"

	"crumple/api"
	"crumple/barrier"
)

// P4.1 (speeds): each function with ordinary inputs, at its limits, and with its errors in their order.

func gate(place, low, high int) barrier.Gate { return barrier.Gate{Place: place, Time: to(low, high)} }

// gates returns the gates of the chapter's first example.
func gates() []barrier.Gate {
	return []barrier.Gate{gate(0, 0, 10), gate(1000, 100010, 100020), gate(2000, 200030, 200040)}
}

// manyGates returns n gates at each millimetre, one in a microsecond.
func manyGates(n int) []barrier.Gate {
	var l []barrier.Gate
	for i := range n {
		l = append(l, gate(i, i, i))
	}
	return l
}

func TestSpeeds(t *testing.T) {
	for _, x := range []struct {
		l      []barrier.Gate
		speeds []api.Interval
		speed  api.Interval
	}{
		{gates()[:2], []api.Interval{to(9998, 10000)}, to(9998, 10000)},
		{gates(), []api.Interval{to(9998, 10000), to(9997, 10000)}, to(9998, 10000)},
		{[]barrier.Gate{gate(7, 5, 5), gate(10, 12, 12)}, []api.Interval{to(428571, 428572)}, to(428571, 428572)},
		{[]barrier.Gate{gate(0, 0, 0), gate(6, 3, 3)}, []api.Interval{to(2000000, 2000000)}, to(2000000, 2000000)},
		// 4 mm in 1 to 3 microseconds, then 4 mm in 2 to 2 of them.
		{[]barrier.Gate{gate(0, 0, 1), gate(4, 2, 3), gate(8, 5, 5)}, []api.Interval{to(1333333, 4000000), to(1333333, 2000000)}, to(1333333, 2000000)},
		// What both have in common may be one number, or the lesser end of the one and the greater end of the other.
		{[]barrier.Gate{gate(0, 0, 1), gate(1, 2, 2), gate(2, 3, 3)}, []api.Interval{to(500000, 1000000), to(1000000, 1000000)}, to(1000000, 1000000)},
		{[]barrier.Gate{gate(0, 0, 0), gate(1, 1, 2), gate(4, 8, 9)}, []api.Interval{to(500000, 1000000), to(375000, 500000)}, to(500000, 500000)},
		{[]barrier.Gate{gate(0, 0, 0), gate(barrier.MaxPlace, 1, 1)}, []api.Interval{to(1000000000000, 1000000000000)}, to(1000000000000, 1000000000000)},
		{[]barrier.Gate{gate(0, 0, 0), gate(1, api.MaxTick, api.MaxTick)}, []api.Interval{to(0, 1)}, to(0, 1)},
		{[]barrier.Gate{gate(barrier.MaxPlace-1, 0, 1), gate(barrier.MaxPlace, 2, api.MaxTick)}, []api.Interval{to(0, 1000000)}, to(0, 1000000)},
	} {
		want(t, "CheckGates", barrier.CheckGates(x.l), api.OK)
		speeds, e := barrier.Speeds(x.l)
		wantOK(t, fmt.Sprintf("Speeds of %v", x.l), speeds, e, x.speeds)
		speed, e := barrier.Speed(x.l)
		wantOK(t, fmt.Sprintf("Speed of %v", x.l), speed, e, x.speed)
	}
	speeds, e := barrier.Speeds(manyGates(barrier.MaxGates))
	want(t, "Speeds of 8 gates", e, api.OK)
	want(t, "the number of speeds of 8 gates", len(speeds), 7)
}

func TestSpeedsThatHaveNothingInCommon(t *testing.T) {
	for _, l := range [][]barrier.Gate{
		{gate(0, 0, 0), gate(1, 1, 1), gate(2, 3, 3)}, {gate(0, 0, 0), gate(1, 2, 2), gate(2, 3, 3)},
		// 333333 to 333334, and 333335.
		{gate(0, 0, 0), gate(1, 3, 3), gate(333336, 1000003, 1000003)},
		// All successive ones have something in common, but not all of them.
		{gate(0, 0, 0), gate(2, 1, 1), gate(4, 2, 4), gate(5, 5, 5)},
		{gate(0, 0, 0), gate(1, 1, 1), gate(2, 2, 2), gate(3, 4, 4)},
	} {
		_, e := barrier.Speeds(l)
		want(t, "Speeds", e, api.OK)
		speed, e := barrier.Speed(l)
		wantError(t, fmt.Sprintf("Speed of %v", l), speed, e, api.ErrConflict)
	}
}

// badGates has gates in the order of their errors.
func badGates() []wrong[[]barrier.Gate] {
	first := gate(5, 10, 20)
	bad := []wrong[barrier.Gate]{
		{gate(5, 30, 40), api.ErrOrder}, {gate(4, 30, 40), api.ErrOrder}, {gate(0, 0, 0), api.ErrOrder},
		{gate(6, 20, 40), api.ErrOrder}, {gate(6, 10, 40), api.ErrOrder}, {gate(6, 0, 0), api.ErrOrder}, {gate(6, 15, 20), api.ErrOrder},
		{gate(5, 2, 1), api.ErrOrder}, {gate(5, -1, -2), api.ErrRange},
	}
	for _, n := range outside(0, barrier.MaxPlace) {
		bad = append(bad, wrong[barrier.Gate]{gate(n, 1, 0), api.ErrRange}, wrong[barrier.Gate]{gate(n, 30, 30), api.ErrRange})
	}
	for _, b := range badIntervals(0, api.MaxTick) {
		bad = append(bad, wrong[barrier.Gate]{barrier.Gate{Place: 6, Time: b.x}, b.e}, wrong[barrier.Gate]{barrier.Gate{Place: 5, Time: b.x}, b.e})
	}
	l := []wrong[[]barrier.Gate]{
		{nil, api.ErrShort}, {[]barrier.Gate{}, api.ErrShort}, {[]barrier.Gate{gate(-1, 1, 0)}, api.ErrShort}, {manyGates(1), api.ErrShort},
		{manyGates(barrier.MaxGates + 1), api.ErrMany}, {make([]barrier.Gate, barrier.MaxGates+1), api.ErrMany},
		{make([]barrier.Gate, 2), api.ErrOrder}, {[]barrier.Gate{gate(-1, 0, 0), gate(1, 1, 1)}, api.ErrRange}, {[]barrier.Gate{gate(0, 1, 0), gate(-1, 1, 1)}, api.ErrOrder},
	}
	for _, b := range bad {
		// The last gate has an error that would come earlier.
		l = append(l, wrong[[]barrier.Gate]{[]barrier.Gate{first, b.x, gate(-1, 0, 0)}, b.e})
	}
	return l
}

func TestGateErrors(t *testing.T) {
	for _, b := range badGates() {
		want(t, fmt.Sprintf("CheckGates of %v", b.x), barrier.CheckGates(b.x), b.e)
		speeds, e := barrier.Speeds(b.x)
		wantError(t, fmt.Sprintf("Speeds of %v", b.x), speeds, e, b.e)
		speed, e := barrier.Speed(b.x)
		wantError(t, fmt.Sprintf("Speed of %v", b.x), speed, e, b.e)
	}
}

func TestSpeedsByTheirDefinition(t *testing.T) {
	r := dice(1)
	for range 2000 {
		a := gate(between(r, 0, 20), between(r, 0, 9), between(r, 9, 20))
		b := gate(between(r, 21, 60), between(r, 21, 30), between(r, 30, 99))
		speeds, e := barrier.Speeds([]barrier.Gate{a, b})
		want(t, "Speeds", e, api.OK)
		way, longest, shortest := (b.Place-a.Place)*1000000, b.Time.High-a.Time.Low, b.Time.Low-a.Time.High
		low, high := speeds[0].Low, speeds[0].High
		want(t, "whether Low is rounded down", low*longest <= way && way < (low+1)*longest, true)
		want(t, "whether High is rounded up", (high-1)*shortest < way && way <= high*shortest, true)
	}
}

func across(from, to int) api.Span { return api.Span{From: from, To: to} }

func TestOverlap(t *testing.T) {
	for _, x := range []struct {
		car, barrier api.Span
		ratio        api.Ratio
	}{
		{across(0, 1800), across(1000, 3000), ratio(4, 9)}, {across(1000, 3000), across(0, 1800), ratio(2, 5)},
		{across(5, 10), across(5, 10), ratio(1, 1)}, {across(5, 10), across(0, 20), ratio(1, 1)}, {across(0, 20), across(5, 10), ratio(1, 4)},
		{across(0, 3), across(2, 9), ratio(1, 3)}, {across(4, 8), across(0, 6), ratio(1, 2)},
		{across(0, barrier.MaxPlace), across(barrier.MaxPlace-1, barrier.MaxPlace), ratio(1, barrier.MaxPlace)}, {across(0, barrier.MaxPlace), across(0, barrier.MaxPlace), ratio(1, 1)},
		{across(0, 999999), across(0, 999998), ratio(999998, 999999)},
	} {
		got, e := barrier.Overlap(x.car, x.barrier)
		wantOK(t, fmt.Sprintf("Overlap of %v and %v", x.car, x.barrier), got, e, x.ratio)
	}
}

func TestOverlapErrors(t *testing.T) {
	good := across(4, 9)
	for _, bad := range []api.Span{across(5, 5), across(6, 5), across(0, 0), across(-1, 5), across(-2, -1), across(0, barrier.MaxPlace+1), across(barrier.MaxPlace, barrier.MaxPlace), across(barrier.MaxPlace, barrier.MaxPlace+1), across(far[0], far[4]), across(far[4], far[0]), across(far[0], 5), across(0, far[4]), across(far[4], far[4])} {
		for _, x := range [][2]api.Span{{bad, good}, {good, bad}, {bad, bad}, {bad, across(20, 30)}, {across(far[4]/2, far[4]), bad}} {
			got, e := barrier.Overlap(x[0], x[1])
			wantError(t, fmt.Sprintf("Overlap of %v", x), got, e, api.ErrSpan)
		}
	}
	for _, apart := range []api.Span{across(0, 4), across(9, 12), across(0, 1), across(50, 60)} {
		got, e := barrier.Overlap(good, apart)
		wantError(t, "Overlap of a car beside the barrier", got, e, api.ErrNone)
		got, e = barrier.Overlap(apart, good)
		wantError(t, "Overlap of a barrier beside the car", got, e, api.ErrNone)
	}
}

func class(name string, speed, overlap api.Interval) barrier.Class {
	return barrier.Class{Name: name, Speed: speed, Overlap: overlap}
}

func TestClasses(t *testing.T) {
	full := class("full", to(9000, 11000), to(900, 1000))
	half := class("half", to(9000, 11000), to(400, 500))
	slow := class("slow", to(0, 9000), to(0, 1000))
	all := []barrier.Class{full, half, slow}
	for _, x := range []struct {
		l              []barrier.Class
		speed          api.Interval
		overlap        api.Ratio
		sure, possible string
	}{
		{all[:1], to(9998, 10000), ratio(1, 1), "full", "full"}, {all[:1], to(8900, 9100), ratio(1, 1), "", "full"}, {all[:1], to(9998, 10000), ratio(4, 9), "", ""},
		{all, to(9998, 10000), ratio(4, 9), "half", "half"}, {all, to(9000, 9000), ratio(1, 2), "half slow", "half slow"}, {all, to(8999, 9000), ratio(9, 10), "slow", "full slow"},
		{all, to(9000, 9001), ratio(2, 5), "half", "half slow"}, {all, to(11000, 11001), ratio(1, 1), "", "full"}, {all, to(11001, 12000), ratio(1, 1), "", ""}, {all, to(0, barrier.MaxSpeed), ratio(0, 1), "", "slow"},
		{all, to(9000, 11000), ratio(1, 1), "full", "full slow"}, {all, to(8999, 11000), ratio(1, 1), "", "full slow"}, {all, to(9000, 11001), ratio(1, 1), "", "full slow"}, {all, to(8000, 12000), ratio(1, 1), "", "full slow"}, {all, to(8000, 8999), ratio(1, 1), "slow", "slow"},
		// The overlaps are not rounded to thousandths.
		{all, to(10000, 10000), ratio(899999, 1000000), "", ""}, {all, to(10000, 10000), ratio(399, 1000), "", ""}, {all, to(10000, 10000), ratio(500000000, 999999999), "", ""}, {all, to(10000, 10000), ratio(250000, 500001), "half", "half"}, {all, to(10000, 10000), ratio(400000000, 999999999), "half", "half"}, {all, to(10000, 10000), ratio(399999999, 999999998), "", ""},
		{nil, to(0, 1), ratio(1, 1), "", ""},
		{[]barrier.Class{class("b", to(0, 0), to(0, 0)), class("a", to(0, 0), to(0, 0)), class("c", to(0, 1), to(0, 0))}, to(0, 0), ratio(0, 1), "b a c", "b a c"},
		{[]barrier.Class{class(longest, to(barrier.MaxSpeed, barrier.MaxSpeed), to(1000, 1000))}, to(barrier.MaxSpeed, barrier.MaxSpeed), ratio(1, 1), longest, longest},
	} {
		sure, possible, e := barrier.Classes(x.l, x.speed, x.overlap)
		wantOK(t, fmt.Sprintf("Classes of %v, %v, for sure", x.speed, x.overlap), sure, e, words(x.sure))
		wantOK(t, fmt.Sprintf("Classes of %v, %v, possibly", x.speed, x.overlap), possible, e, words(x.possible))
	}
	var most []barrier.Class
	for i := range barrier.MaxClasses {
		most = append(most, class(fmt.Sprintf("c%d", i), to(0, barrier.MaxSpeed), to(0, 1000)))
	}
	sure, possible, e := barrier.Classes(most, to(0, 1), ratio(1, 2))
	want(t, "Classes of 16", e, api.OK)
	want(t, "the numbers of classes", pair[int, int]{len(sure), len(possible)}, pair[int, int]{16, 16})
}

// badClasses has classes in the order of their errors.
func badClasses() []wrong[[]barrier.Class] {
	turned := to(1, 0)
	bad := []wrong[barrier.Class]{{class("a", turned, turned), api.ErrTwice}}
	for _, name := range badNames {
		bad = append(bad, wrong[barrier.Class]{class(name, turned, turned), api.ErrName})
	}
	for _, b := range badIntervals(0, barrier.MaxSpeed) {
		bad = append(bad, wrong[barrier.Class]{class("b", b.x, turned), b.e}, wrong[barrier.Class]{class("b", b.x, to(-1, 0)), b.e})
	}
	for _, b := range badIntervals(0, 1000) {
		bad = append(bad, wrong[barrier.Class]{class("b", to(0, 0), b.x), b.e})
	}
	l := []wrong[[]barrier.Class]{{make([]barrier.Class, barrier.MaxClasses+1), api.ErrMany}, {make([]barrier.Class, barrier.MaxClasses), api.ErrName}}
	for _, b := range bad {
		l = append(l, wrong[[]barrier.Class]{[]barrier.Class{class("a", to(0, 0), to(0, 0)), b.x, {}}, b.e})
	}
	return l
}

func TestClassErrors(t *testing.T) {
	check := func(what string, l []barrier.Class, speed api.Interval, overlap api.Ratio, wanted api.Errno) {
		sure, possible, e := barrier.Classes(l, speed, overlap)
		wantError(t, what, pair[[]string, []string]{sure, possible}, e, wanted)
	}
	for _, b := range badClasses() {
		check(fmt.Sprintf("Classes of %v", b.x), b.x, to(1, 0), ratio(1, 0), b.e)
		check(fmt.Sprintf("Classes of %v alone", b.x), b.x, to(0, 0), ratio(0, 1), b.e)
	}
	for _, b := range badIntervals(0, barrier.MaxSpeed) {
		check(fmt.Sprintf("Classes of the speed %v", b.x), nil, b.x, ratio(2, 4), b.e)
		check(fmt.Sprintf("Classes of the speed %v alone", b.x), nil, b.x, ratio(0, 1), b.e)
	}
	for _, b := range []wrong[api.Ratio]{
		{ratio(2, 0), api.ErrRange}, {ratio(1, -1), api.ErrRange}, {ratio(far[0], far[0]), api.ErrRange}, {ratio(1, 1000000000), api.ErrRange}, {ratio(1000000000, 1), api.ErrRange}, {ratio(far[4], far[4]), api.ErrRange},
		{ratio(2, 4), api.ErrForm}, {ratio(0, 2), api.ErrForm}, {ratio(-2, 4), api.ErrForm}, {ratio(4, 2), api.ErrForm},
		{ratio(-1, 2), api.ErrRange}, {ratio(-1, 999999999), api.ErrRange}, {ratio(3, 2), api.ErrRange}, {ratio(999999999, 999999998), api.ErrRange}, {ratio(2, 1), api.ErrRange},
	} {
		check(fmt.Sprintf("Classes of the overlap %v", b.x), []barrier.Class{class("a", to(0, 0), to(0, 1000))}, to(0, 0), b.x, b.e)
	}
}
