package channel_test

import (
	"strings"
	"testing"

	"crumple/api"
	"crumple/channel"
)

// P2.1 (codes): each function with ordinary inputs, at its limits, and with its errors in their order.

// longest is a name of 24 bytes.
const longest = "abcdefghijklmnopqrstuvwx"

func TestCheckCode(t *testing.T) {
	for _, c := range []channel.Code{{Place: "head", Axis: 0, Sign: 1}, {Place: "a", Axis: 2, Sign: -1}, {Place: longest, Axis: 1, Sign: 1}, {Place: "A9_", Axis: 1, Sign: -1}} {
		want(t, "CheckCode", channel.CheckCode(c), api.OK)
	}
	for _, x := range badCodes() {
		want(t, "CheckCode", channel.CheckCode(x.x), x.e)
	}
}

func TestCoded(t *testing.T) {
	for _, x := range []struct {
		c channel.Code
		s string
	}{
		{channel.Code{Place: "head", Axis: 0, Sign: 1}, "head-x+M"},
		{channel.Code{Place: "head", Axis: 1, Sign: 1}, "head-y+N"},
		{channel.Code{Place: "head", Axis: 2, Sign: -1}, "head-z-Q"},
		{channel.Code{Place: "a", Axis: 0, Sign: 1}, "a-x+T"},
		{channel.Code{Place: "g", Axis: 0, Sign: 1}, "g-x+Z"},
		{channel.Code{Place: "h", Axis: 0, Sign: 1}, "h-x+A"},
		{channel.Code{Place: longest, Axis: 2, Sign: -1}, longest + "-z-I"},
	} {
		s, e := channel.Coded(x.c)
		want(t, "Coded", s, x.s)
		want(t, "Coded", e, api.OK)
		c, e := channel.Decoded(x.s)
		want(t, "Decoded", c, x.c)
		want(t, "Decoded", e, api.OK)
	}
	for _, x := range badCodes() {
		s, e := channel.Coded(x.x)
		wantError(t, "Coded", s, e, x.e)
	}
}

func TestDecodedErrors(t *testing.T) {
	for _, x := range []wrong[string]{
		{longest + "y-x+M", api.ErrLong}, {strings.Repeat("?", 29), api.ErrLong}, {strings.Repeat("?", 28), api.ErrSyntax},
		{"", api.ErrSyntax}, {"-x+M", api.ErrSyntax}, {"-x+", api.ErrSyntax}, {"M", api.ErrSyntax}, {"\u00e9\u00e9", api.ErrSyntax},
		{"head x+M", api.ErrSyntax}, {"head_x+M", api.ErrSyntax}, {"head-w+M", api.ErrSyntax}, {"head-X+M", api.ErrSyntax}, {"head-0+M", api.ErrSyntax},
		{"head-x*M", api.ErrSyntax}, {"head-x M", api.ErrSyntax}, {"head-x+m", api.ErrSyntax}, {"head-x+@", api.ErrSyntax}, {"head-x+[", api.ErrSyntax}, {"head-x+0", api.ErrSyntax}, {"head-x+M\n", api.ErrSyntax},
		{"head-\u00e9M", api.ErrSyntax}, {"head\u00e9+M", api.ErrSyntax}, {"head-x\u00e9", api.ErrSyntax}, {"head-x+\xff", api.ErrSyntax}, {"head\xff\xff\xff\xff", api.ErrSyntax}, {"head-x\x00M", api.ErrSyntax}, {"head-\ufffd", api.ErrSyntax}, {"9ead -w+M", api.ErrSyntax},
		{"9head-x+A", api.ErrName}, {"he ad-x+A", api.ErrName}, {"--x+A", api.ErrName}, {"_-x+A", api.ErrName}, {"h\u00e9ad-x+A", api.ErrName}, {"head--x+A", api.ErrName}, {"\xff-x+A", api.ErrName},
		{"head-x+L", api.ErrCheck}, {"head-x+N", api.ErrCheck}, {"head-x+A", api.ErrCheck}, {"head-x-M", api.ErrCheck}, {"head-y+M", api.ErrCheck}, {"heae-x+M", api.ErrCheck}, {"head0-x+M", api.ErrCheck}, {longest + "-z-L", api.ErrCheck},
	} {
		c, e := channel.Decoded(x.x)
		wantError(t, "Decoded "+x.x, c, e, x.e)
	}
}
