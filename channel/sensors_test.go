package channel_test

import (
	"math"
	"slices"
	"testing"

	"crumple/api"
	"crumple/channel"
)

// P2.1 (sensors): each function with ordinary inputs, at its limits, and with its errors in their order.

// badZeros has numbers of samples for a record of three, in the order of their errors.
func badZeros() []wrong[int] {
	return []wrong[int]{
		{0, api.ErrRange}, {-1, api.ErrRange}, {65, api.ErrRange}, {math.MinInt, api.ErrRange}, {math.MaxInt, api.ErrRange},
		{4, api.ErrShort}, {64, api.ErrShort},
	}
}

func TestCheckSensor(t *testing.T) {
	for _, s := range []channel.Sensor{sensor("s", 1600, 990, 1010), sensor("s", 1, 1, 1), sensor(longest, 16384, 4000, 4000), sensor("A_9", 16384, 1, 4000)} {
		want(t, "CheckSensor", channel.CheckSensor(s), api.OK)
	}
	for _, x := range badSensors() {
		want(t, "CheckSensor", channel.CheckSensor(x.x), x.e)
	}
}

func TestOffset(t *testing.T) {
	l := sixteenths(2, 0, 160, -1600)
	for _, x := range []struct{ zero, low, high int }{{1, 2, 2}, {2, 0, 2}, {3, 0, 160}, {4, -1600, 160}} {
		got, e := channel.Offset(l, x.zero)
		want(t, "Offset", got, interval(x.low, x.high))
		want(t, "Offset", e, api.OK)
	}
	long := make([]float32, api.MaxSamples)
	long[0], long[63], long[64] = -1024, 1024, 0.0625
	x, e := channel.Offset(long, 64)
	want(t, "Offset of 64", x, interval(-16384, 16384))
	want(t, "Offset of 64", e, api.OK)
	x, e = channel.Offset([]float32{negative}, 1)
	want(t, "Offset of -0", x, interval(0, 0))
	want(t, "Offset of -0", e, api.OK)
	for _, bad := range badRecords() {
		x, e := channel.Offset(bad.x, 0)
		wantError(t, "Offset", x, e, bad.e)
	}
	for _, bad := range badZeros() {
		x, e := channel.Offset(sixteenths(1, 2, 3), bad.x)
		wantError(t, "Offset", x, e, bad.e)
	}
	x, e = channel.Offset(nil, 1)
	wantError(t, "Offset of no samples", x, e, api.ErrShort)
}

func TestConverted(t *testing.T) {
	for _, x := range []struct {
		s    channel.Sensor
		l    []int
		zero int
		v    []channel.Value
	}{
		{sensor("s", 1600, 990, 1010), []int{2, 0, 160, -1600}, 2, []channel.Value{{Low: 0, High: 3}, {Low: -3, High: 0}, {Low: 156, High: 162}, {Low: -1619, High: -1584, Under: true}}},
		{sensor("s", 10, 1000, 1000), []int{0, 9, 10, 11, -9, -10, -11}, 1, []channel.Value{{}, {Low: 9, High: 9}, {Low: 10, High: 10, Over: true}, {Low: 11, High: 11, Over: true}, {Low: -9, High: -9}, {Low: -10, High: -10, Under: true}, {Low: -11, High: -11, Under: true}}},
		// The full scale is one of the integer itself, not less the offset.
		{sensor("s", 10, 1000, 1000), []int{-5, 9, -10, 5}, 1, []channel.Value{{}, {Low: 14, High: 14}, {Low: -5, High: -5, Under: true}, {Low: 10, High: 10}}},
		{sensor("s", 16384, 1, 4000), []int{-16384, 16384}, 2, []channel.Value{{Low: -131072, High: 0, Under: true}, {Low: 0, High: 131072, Over: true}}},
		{sensor("s", 16384, 1, 2), []int{1, -1, 0}, 2, []channel.Value{{Low: 0, High: 1}, {Low: -1, High: 0}, {Low: -1, High: 1}}},
		{sensor("s", 1, 1, 1), []int{0, 1}, 1, []channel.Value{{}, {Low: 0, High: 1, Over: true}}},
	} {
		v, e := channel.Converted(x.s, sixteenths(x.l...), x.zero)
		want(t, "Converted", v, x.v)
		want(t, "Converted", e, api.OK)
	}
	v, e := channel.Converted(sensor("s", 1600, 990, 1010), make([]float32, api.MaxSamples), 64)
	want(t, "Converted of 4096", v, make([]channel.Value, api.MaxSamples))
	want(t, "Converted of 4096", e, api.OK)
}

func TestConvertedErrors(t *testing.T) {
	good := sensor("s", 1600, 990, 1010)
	for _, bad := range badSensors() {
		v, e := channel.Converted(bad.x, []float32{nan}, 0)
		wantError(t, "Converted by a bad sensor", v, e, bad.e)
	}
	for _, bad := range badRecords() {
		v, e := channel.Converted(good, bad.x, 0)
		wantError(t, "Converted of a bad record", v, e, bad.e)
	}
	for _, bad := range badZeros() {
		v, e := channel.Converted(good, sixteenths(1, 2, 3), bad.x)
		wantError(t, "Converted with a bad zero", v, e, bad.e)
	}
	v, e := channel.Converted(good, nil, 1)
	wantError(t, "Converted of no samples", v, e, api.ErrShort)
}

func TestConvertedByItsDefinition(t *testing.T) {
	r := dice(1)
	for range 300 {
		low := between(r, 1, 4000)
		s := sensor("s", between(r, 1, 300), low, between(r, low, 4000))
		l := some(r, between(r, 1, 20), 300)
		zero := between(r, 1, len(l))
		v, e := channel.Converted(s, sixteenths(l...), zero)
		want(t, "Converted", e, api.OK)
		for i, u := range l {
			least, greatest := math.MaxInt, math.MinInt
			for o := slices.Min(l[:zero]); o <= slices.Max(l[:zero]); o++ {
				for _, sense := range []int{s.Sense.Low, s.Sense.High} {
					least, greatest = min(least, (u-o)*sense), max(greatest, (u-o)*sense)
				}
			}
			wanted := channel.Value{Low: floor(least, 1000), High: ceiling(greatest, 1000), Under: u <= -s.Scale, Over: u >= s.Scale}
			want(t, "a value", v[i], wanted)
		}
	}
}

func TestShunted(t *testing.T) {
	for _, x := range []struct {
		low, high, expected, measured int
		passes                        bool
	}{
		{990, 1010, 100, 99, true}, {990, 1010, 100, 97, false}, {990, 1010, 98, 99, true}, {990, 1010, 97, 99, false}, {990, 1010, 101, 99, false},
		// The ends are rounded outward: 100.98 to 103.02.
		{990, 1010, 99, 102, false}, {990, 1010, 100, 102, true}, {990, 1010, 104, 102, true}, {990, 1010, 105, 102, false},
		// Or they are whole: 99 to 101.
		{990, 1010, 98, 100, false}, {990, 1010, 99, 100, true}, {990, 1010, 101, 100, true}, {990, 1010, 102, 100, false},
		{1, 1, 1, 1000, true}, {1, 1, 2, 1000, false}, {1, 1, 1, 1, true}, {1, 1, 2, 1, false}, {1, 1, 2, 1001, true},
		{4000, 4000, 16384, 4096, true}, {4000, 4000, 16384, 16384, false}, {1, 4000, 16384, 16384, true}, {1000, 1000, 16384, 16384, true}, {1000, 1000, 1, 1, true},
	} {
		passes, e := channel.Shunted(sensor("s", 1, x.low, x.high), x.expected, x.measured)
		if passes != x.passes || e != api.OK {
			t.Errorf("Shunted of %v: got %v, %d", x, passes, e)
		}
	}
}

func TestShuntedErrors(t *testing.T) {
	for _, bad := range badSensors() {
		passes, e := channel.Shunted(bad.x, 0, 0)
		wantError(t, "Shunted by a bad sensor", passes, e, bad.e)
	}
	for _, bad := range []int{0, -1, 16385, math.MinInt, math.MaxInt} {
		passes, e := channel.Shunted(sensor("s", 1600, 990, 1010), bad, 100)
		wantError(t, "Shunted with a bad expected integer", passes, e, api.ErrRange)
		passes, e = channel.Shunted(sensor("s", 1600, 990, 1010), 100, bad)
		wantError(t, "Shunted with a bad measured integer", passes, e, api.ErrRange)
	}
}
