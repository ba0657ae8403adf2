package record_test

import (
	"slices"
	"strings"
	"testing"

	"crumple/api"
	"crumple/record"
)

// stream returns bytes with their seal.
// P1.4 (streams and strings): each function with ordinary inputs, at its limits, and with its errors in their order.

func stream(body ...byte) []byte {
	seal, _ := record.Seal(api.Key{}, body)
	return slices.Concat(body, seal[:])
}

func TestPack(t *testing.T) {
	s, e := record.Pack([]float32{1, -1})
	want(t, "Pack", s, []byte{'C', 'R', 'U', '1', 0, 2, 0, 16, 255, 240, 194, 154, 70, 22, 218, 226, 254, 126})
	want(t, "Pack", e, api.OK)
	s, _ = record.Pack([]float32{negative, 1024, -1024, -0.0625})
	want(t, "Pack of four", s[:14], []byte{'C', 'R', 'U', '1', 0, 4, 0, 0, 64, 0, 192, 0, 255, 255})
	s, e = record.Pack(nil)
	want(t, "Pack of none", s, stream('C', 'R', 'U', '1', 0, 0))
	want(t, "Pack of none", e, api.OK)
	s, e = record.Pack(make([]float32, 4096))
	want(t, "Pack of 4096", s[4:6], []byte{16, 0})
	want(t, "Pack of 4096", len(s), 14+8192)
	want(t, "Pack of 4096", e, api.OK)
	for wanted, l := range badSamples() {
		s, e := record.Pack(l)
		wantError(t, "Pack of bad samples", s, e, wanted)
	}
}

func TestUnpack(t *testing.T) {
	l, e := record.Unpack(stream('C', 'R', 'U', '1', 0, 4, 0, 16, 255, 240, 64, 0, 192, 0))
	want(t, "Unpack", l, []float32{1, -1, 1024, -1024})
	want(t, "Unpack", e, api.OK)
	l, e = record.Unpack(stream('C', 'R', 'U', '1', 0, 0))
	want(t, "Unpack of none", l, nil)
	want(t, "Unpack of none", e, api.OK)
	wrong := stream('C', 'R', 'U', '1', 0, 1, 64, 1)
	wrong[15]++
	for _, x := range []struct {
		s []byte
		e api.Errno
	}{
		{nil, api.ErrTorn}, {make([]byte, 13), api.ErrTorn}, {[]byte("XXXX123456789"), api.ErrTorn},
		{make([]byte, 14), api.ErrForm}, {stream('C', 'R', 'U', '2', 0, 1), api.ErrForm}, {stream('c', 'R', 'U', '1', 0, 0), api.ErrForm},
		{stream('C', 'R', 'U', '1', 0, 1), api.ErrShape}, {stream('C', 'R', 'U', '1', 0, 0, 0), api.ErrShape}, {stream('C', 'R', 'U', '1', 1, 0, 0, 0), api.ErrShape},
		{append([]byte("CRU1"), make([]byte, 11)...), api.ErrShape}, {append([]byte("CRU1"), make([]byte, 10)...), api.ErrCheck},
		{wrong, api.ErrCheck},
		{stream(append([]byte{'C', 'R', 'U', '1', 16, 1, 64, 1}, make([]byte, 8192)...)...), api.ErrMany},
		{stream('C', 'R', 'U', '1', 0, 1, 64, 1), api.ErrRange}, {stream('C', 'R', 'U', '1', 0, 2, 0, 0, 191, 255), api.ErrRange}, {stream('C', 'R', 'U', '1', 0, 1, 128, 0), api.ErrRange},
		{make([]byte, api.MaxStream), api.ErrForm}, {make([]byte, api.MaxStream+1), api.ErrLong},
	} {
		l, e := record.Unpack(x.s)
		wantError(t, "Unpack", l, e, x.e)
	}
}

func TestPrint(t *testing.T) {
	for _, x := range []struct {
		l []float32
		s string
	}{
		{[]float32{1, -0.5}, "record 2\nsample 16\nsample -8\n"},
		{nil, "record 0\n"},
		{[]float32{negative, 1024, -1024}, "record 3\nsample 0\nsample 16384\nsample -16384\n"},
	} {
		s, e := record.Print(x.l)
		want(t, "Print", s, x.s)
		want(t, "Print", e, api.OK)
	}
	// The first line has 11 bytes, each other one 9, or 10.
	exact := make([]float32, 453)
	for i := range 8 {
		exact[i] = -0.0625
	}
	s, e := record.Print(exact)
	want(t, "Print of 4096 bytes", len(s), 4096)
	want(t, "Print of 4096 bytes", e, api.OK)
	exact[8] = 1
	s, e = record.Print(exact)
	wantError(t, "Print of 4097 bytes", s, e, api.ErrLong)
	s, e = record.Print(make([]float32, 4096))
	wantError(t, "Print of 4096 samples", s, e, api.ErrLong)
	for wanted, l := range badSamples() {
		s, e := record.Print(l)
		wantError(t, "Print of bad samples", s, e, wanted)
	}
}

func TestParse(t *testing.T) {
	for s, wanted := range map[string][]float32{
		"record 2\nsample 16\nsample -8\n":        {1, -0.5},
		"record 0\n":                              nil,
		"record 2\nsample -16384\nsample 16384\n": {-1024, 1024},
		"record 1\nsample 0\n":                    {0},
	} {
		l, at, e := record.Parse(s)
		want(t, "Parse "+s, l, wanted)
		want(t, "Parse "+s, at, 0)
		want(t, "Parse "+s, e, api.OK)
	}
}

func TestParseErrors(t *testing.T) {
	for _, x := range []struct {
		s  string
		at int
		e  api.Errno
	}{
		{"", 0, api.ErrSyntax}, {"\n", 0, api.ErrSyntax}, {"record 0", 0, api.ErrSyntax}, {"record\n", 0, api.ErrSyntax}, {"record \n", 0, api.ErrSyntax},
		{"record -1\n", 0, api.ErrSyntax}, {"record -0\n", 0, api.ErrSyntax}, {"record +1\n", 0, api.ErrSyntax}, {"record 00\n", 0, api.ErrSyntax}, {"record 01\nsample 1\n", 0, api.ErrSyntax},
		{"Record 0\n", 0, api.ErrSyntax}, {"sample 0\n", 0, api.ErrSyntax}, {" record 0\n", 0, api.ErrSyntax}, {"record  0\n", 0, api.ErrSyntax}, {"record 0 \n", 0, api.ErrSyntax}, {"record\t0\n", 0, api.ErrSyntax}, {"record 0\r\n", 0, api.ErrSyntax}, {"record 1000000000\n", 0, api.ErrSyntax}, {"record ٣\n", 0, api.ErrSyntax},
		{"record 0\n\n", 1, api.ErrSyntax}, {"record 1\nsample 1", 1, api.ErrSyntax}, {"record 1\nrecord 1\n", 1, api.ErrSyntax}, {"record 1\nsample -0\n", 1, api.ErrSyntax}, {"record 1\nsample -\n", 1, api.ErrSyntax}, {"record 1\nsample --1\n", 1, api.ErrSyntax}, {"record 1\nsample +1\n", 1, api.ErrSyntax},
		{"record 1\nsample 01\n", 1, api.ErrSyntax}, {"record 1\nsample -01\n", 1, api.ErrSyntax}, {"record 1\nsample 1 1\n", 1, api.ErrSyntax}, {"record 1\nsample 1000000000\n", 1, api.ErrSyntax}, {"record 1\nsample 1x\n", 1, api.ErrSyntax}, {"record 1\nsample 99999\nsample\n", 2, api.ErrSyntax}, {"record 5\nsample x\nsample\n", 1, api.ErrSyntax},
		{"record 1\n", 1, api.ErrShape}, {"record 0\nsample 1\n", 2, api.ErrShape}, {"record 2\nsample 99999\n", 2, api.ErrShape}, {"record 999999999\nsample 1\n", 2, api.ErrShape},
		{"record 1\nsample 16385\n", 2, api.ErrRange}, {"record 2\nsample 1\nsample -16385\n", 3, api.ErrRange}, {"record 1\nsample -999999999\n", 2, api.ErrRange},
		{strings.Repeat("x", 4097), 0, api.ErrLong}, {strings.Repeat("x", 4096), 0, api.ErrSyntax},
	} {
		l, at, e := record.Parse(x.s)
		want(t, "the index of Parse "+x.s, at, x.at)
		wantError(t, "Parse "+x.s, l, e, x.e)
	}
	long := "record 453\n" + strings.Repeat("sample -1\n", 8) + strings.Repeat("sample 1\n", 445)
	l, at, e := record.Parse(long)
	want(t, "Parse of 4096 bytes", len(l), 453)
	want(t, "Parse of 4096 bytes", e, api.OK)
	l, at, e = record.Parse(long + "\n")
	wantError(t, "Parse of 4097 bytes", l, e, api.ErrLong)
	want(t, "Parse of 4097 bytes", at, 0)
}
