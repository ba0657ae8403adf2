package channel_test

import (
	"fmt"
	"strings"
	"testing"

	"crumple/api"
	"crumple/channel"
)

// P2.4 (strings): each function with ordinary inputs, at its limits, and with its errors in their order.

// named returns n sensors with names of their own.
func named(n int) []channel.Sensor {
	var l []channel.Sensor
	for i := range n {
		l = append(l, sensor(fmt.Sprintf("s%d", i), 1600+i, 990, 1010))
	}
	return l
}

// badLists has lists of sensors in the order of their errors.
func badLists() []wrong[[]channel.Sensor] {
	good := sensor("s", 1600, 990, 1010)
	many := named(17)
	many[0].Scale = 0
	l := []wrong[[]channel.Sensor]{
		{many, api.ErrMany},
		{[]channel.Sensor{good, good, sensor("", 1, 1, 1)}, api.ErrTwice},
		{[]channel.Sensor{good, sensor("t", 1, 1, 1), sensor("s", 2, 2, 2)}, api.ErrTwice},
		{[]channel.Sensor{good, sensor("s", 0, 1, 1), good}, api.ErrRange},
	}
	for _, bad := range badSensors() {
		l = append(l, wrong[[]channel.Sensor]{[]channel.Sensor{good, bad.x, good}, bad.e})
	}
	return l
}

func TestPrint(t *testing.T) {
	for _, x := range []struct {
		l []channel.Sensor
		s string
	}{
		{[]channel.Sensor{sensor("s", 1600, 990, 1010)}, "sensor s 1600 990 1010\n"},
		{[]channel.Sensor{sensor("b", 1, 1, 1), sensor("a", 16384, 1, 4000), sensor("B", 16384, 4000, 4000)}, "sensor b 1 1 1\nsensor a 16384 1 4000\nsensor B 16384 4000 4000\n"},
		{nil, ""},
	} {
		s, e := channel.Print(x.l)
		want(t, "Print", s, x.s)
		want(t, "Print", e, api.OK)
	}
	s, e := channel.Print(named(16))
	want(t, "Print of 16", strings.Count(s, "\n"), 16)
	want(t, "Print of 16", e, api.OK)
	for _, bad := range badLists() {
		s, e := channel.Print(bad.x)
		wantError(t, "Print", s, e, bad.e)
	}
}

func TestParse(t *testing.T) {
	for _, x := range []struct {
		s string
		l []channel.Sensor
	}{
		{"sensor s 1600 990 1010\n", []channel.Sensor{sensor("s", 1600, 990, 1010)}},
		{"sensor b 1 1 1\nsensor sensor 16384 1 4000\n", []channel.Sensor{sensor("b", 1, 1, 1), sensor("sensor", 16384, 1, 4000)}},
		{"", nil},
	} {
		l, at, e := channel.Parse(x.s)
		want(t, "Parse", l, x.l)
		want(t, "Parse", at, 0)
		want(t, "Parse", e, api.OK)
	}
}

func TestParseErrors(t *testing.T) {
	line := "sensor s 1600 990 1010\n"
	for _, x := range []struct {
		s  string
		at int
		e  api.Errno
	}{
		{"\n", 0, api.ErrSyntax}, {"sensor", 0, api.ErrSyntax}, {"sensor\n", 0, api.ErrSyntax}, {"sensor s 1 1 1", 0, api.ErrSyntax}, {line + "sensor t 1 1 1", 1, api.ErrSyntax},
		{"Sensor s 1 1 1\n", 0, api.ErrSyntax}, {"sensors s 1 1 1\n", 0, api.ErrSyntax}, {" sensor s 1 1 1\n", 0, api.ErrSyntax}, {"sensor s 1 1 1 \n", 0, api.ErrSyntax}, {"sensor s  1 1 1\n", 0, api.ErrSyntax}, {"sensor  1 1 1\n", 0, api.ErrSyntax}, {"sensor\ts 1 1 1\n", 0, api.ErrSyntax}, {"sensor s 1 1 1\r\n", 0, api.ErrSyntax},
		{"sensor s 1 1\n", 0, api.ErrSyntax}, {"sensor s 1 1 1 1\n", 0, api.ErrSyntax}, {"sensor s 1 1 x\n", 0, api.ErrSyntax}, {"sensor s -1 1 1\n", 0, api.ErrSyntax}, {"sensor s +1 1 1\n", 0, api.ErrSyntax}, {"sensor s 01 1 1\n", 0, api.ErrSyntax}, {"sensor s 1 00 1\n", 0, api.ErrSyntax}, {"sensor s 1 1 1000000000\n", 0, api.ErrSyntax}, {"sensor s 1 1 0x1\n", 0, api.ErrSyntax}, {"sensor s 1 1 \u0663\n", 0, api.ErrSyntax}, {"sensor s 1 1 1_0\n", 0, api.ErrSyntax},
		{line + "\n" + line, 1, api.ErrSyntax}, {line + line + "sensor", 2, api.ErrSyntax}, {"sensor 9 0 0 0\nsensor\n", 1, api.ErrSyntax}, {strings.Repeat(line, 17) + "\n", 17, api.ErrSyntax},
		{strings.Repeat(line, 17), 17, api.ErrMany}, {strings.Repeat(line, 16), 16, api.ErrTwice}, {line + line, 2, api.ErrTwice},
		{"sensor 9 0 0 0\n", 1, api.ErrName}, {"sensor - 1 1 1\n" + line, 2, api.ErrName}, {"sensor s\t 1 1 1\n", 1, api.ErrName}, {"sensor \xff 1 1 1\n", 1, api.ErrName},
		{"sensor s 0 1 1\n", 1, api.ErrRange}, {"sensor s 16385 1 1\n", 1, api.ErrRange}, {"sensor s 999999999 1 1\n", 1, api.ErrRange}, {"sensor s 1 0 1\n", 1, api.ErrRange}, {"sensor s 1 1 4001\n", 1, api.ErrRange},
		{line + "sensor t 1 2 1\n", 2, api.ErrOrder}, {"sensor s 1 2 1\n" + line, 2, api.ErrOrder},
		{strings.Repeat("x", 4096), 0, api.ErrSyntax}, {strings.Repeat("x", 4097), 0, api.ErrLong}, {strings.Repeat(line, 200), 0, api.ErrLong},
	} {
		l, at, e := channel.Parse(x.s)
		want(t, "the index of Parse "+x.s, at, x.at)
		wantError(t, "Parse "+x.s, l, e, x.e)
	}
	// A name may be as long as the string permits; then it is none.
	long := "sensor " + strings.Repeat("x", 4096-14) + " 1 1 1\n"
	l, at, e := channel.Parse(long)
	wantError(t, "Parse of 4096 bytes", l, e, api.ErrName)
	want(t, "Parse of 4096 bytes", at, 1)
	l, at, e = channel.Parse(long + "\n")
	wantError(t, "Parse of 4097 bytes", l, e, api.ErrLong)
	want(t, "Parse of 4097 bytes", at, 0)
}
