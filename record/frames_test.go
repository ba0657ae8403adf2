package record_test

import (
	"math"
	"slices"
	"testing"

	"crumple/api"
	"crumple/record"
)

// P1.3 (frames): each function with ordinary inputs, at its limits, and with its errors in their order.

func someKey() api.Key { return api.Key{9, 8, 7, 6, 5, 4, 3, 2} }

// resealed returns the bytes of a frame with another seal, so that it is right again.
func resealed(key api.Key, s [record.Size]byte) [record.Size]byte {
	seal, _ := record.Seal(key, s[:22])
	copy(s[22:], seal[:])
	return s
}

// badFrames has frames in the order of their errors; each has later errors, too.
func badFrames() []struct {
	f record.Frame
	e api.Errno
} {
	return []struct {
		f record.Frame
		e api.Errno
	}{
		{framed(-1, 0, 0, nan), api.ErrRange},
		{framed(256, 0, 0, nan), api.ErrRange},
		{framed(0, -1, 0, nan), api.ErrRange},
		{framed(0, 16777216, 0, nan), api.ErrRange},
		{framed(0, 0, -1, nan), api.ErrRange},
		{framed(0, 0, 9, nan), api.ErrRange},
		{framed(0, 0, math.MinInt, nan), api.ErrRange},
		{framed(0, 0, 0, 0.01, nan), api.ErrRange},
		{framed(0, 0, 1, 1, nan, 1025), api.ErrForm},
		{framed(0, 0, 0, 0, 0, 0, 0, 0, 0, 0, 1025), api.ErrRange},
		{framed(0, 0, 1, 1, 1), api.ErrForm},
		{framed(0, 0, 7, 1, 1, 1, 1, 1, 1, 1, 1), api.ErrForm},
	}
}

func TestSeal(t *testing.T) {
	for _, x := range []struct {
		key  api.Key
		s    []byte
		seal api.Key
	}{
		{api.Key{}, []byte{5}, api.Key{8, 15, 22, 29, 36, 43, 50, 57}},
		{api.Key{}, []byte{5, 1}, api.Key{44, 176, 136, 180, 52, 8, 48, 172}},
		{someKey(), nil, someKey()},
		{api.Key{1, 2, 3, 4, 5, 6, 7, 255}, []byte{250, 251, 252, 253, 254, 255, 0, 1, 2, 3, 4, 5, 6, 7, 8, 9, 10, 11, 12, 13, 14, 15, 16, 17, 18, 19}, api.Key{116, 143, 54, 193, 8, 99, 170, 12}},
	} {
		seal, e := record.Seal(x.key, x.s)
		want(t, "Seal", seal, x.seal)
		want(t, "Seal", e, api.OK)
	}
	_, e := record.Seal(api.Key{}, make([]byte, api.MaxStream))
	want(t, "Seal of the longest", e, api.OK)
	seal, e := record.Seal(api.Key{1}, make([]byte, api.MaxStream+1))
	wantError(t, "Seal of too much", seal, e, api.ErrLong)
}

func TestEncode(t *testing.T) {
	s, e := record.Encode(someKey(), framed(4, 258, 2, 1, -1))
	want(t, "Encode", s, [record.Size]byte{211, 4, 0, 1, 2, 2, 0, 16, 255, 240, 0, 0, 0, 0, 0, 0, 0, 0, 0, 0, 0, 0, 170, 139, 200, 137, 182, 119, 180, 149})
	want(t, "Encode", e, api.OK)
	s, e = record.Encode(api.Key{}, framed(255, 16777215, 8, 1024, -1024, 0.0625, -0.0625, negative, 0, 0, 16))
	want(t, "Encode of the greatest", s[:22], []byte{211, 255, 255, 255, 255, 8, 64, 0, 192, 0, 0, 1, 255, 255, 0, 0, 0, 0, 0, 0, 1, 0})
	want(t, "Encode of the greatest", e, api.OK)
	for _, x := range badFrames() {
		s, e := record.Encode(someKey(), x.f)
		wantError(t, "Encode", s, e, x.e)
	}
}

func TestDecode(t *testing.T) {
	f := framed(4, 66051, 2, 1, -1)
	s, _ := record.Encode(someKey(), f)
	g, e := record.Decode(someKey(), s)
	want(t, "Decode", g, f)
	want(t, "Decode", e, api.OK)
	for _, x := range []struct {
		at   int
		a, b byte
		e    api.Errno
	}{
		{6, 64, 0, api.OK}, {6, 192, 0, api.OK}, {20, 0, 0, api.OK}, {1, 255, 255, api.OK},
		{6, 64, 1, api.ErrRange}, {6, 191, 255, api.ErrRange}, {6, 128, 0, api.ErrRange}, {6, 127, 255, api.ErrRange},
		{20, 64, 1, api.ErrRange}, {20, 0, 1, api.ErrForm}, {4, 1, 9, api.ErrRange}, {4, 1, 255, api.ErrRange}, {4, 1, 1, api.ErrForm},
		{0, 212, 4, api.ErrForm}, {0, 94, 4, api.ErrForm},
	} {
		b := s
		b[x.at], b[x.at+1] = x.a, x.b
		f, e := record.Decode(someKey(), resealed(someKey(), b))
		wantError(t, "Decode of sealed bytes", f, e, x.e)
	}
	g, e = record.Decode(api.Key{}, s)
	wantError(t, "Decode by another key", g, e, api.ErrCheck)
	for at := range record.Size {
		b := s
		b[at]++
		g, e := record.Decode(someKey(), b)
		wanted := api.ErrCheck
		if at == 0 {
			wanted = api.ErrForm
		}
		wantError(t, "Decode of one byte changed", g, e, wanted)
	}
	b := s
	b[5], b[20] = 9, 64
	g, e = record.Decode(someKey(), b)
	wantError(t, "Decode of a wrong seal, length and sample", g, e, api.ErrCheck)
}

func TestReceived(t *testing.T) {
	key := someKey()
	f, g := framed(4, 258, 2, 1, -1), framed(5, 0, 0)
	a, _ := record.Encode(key, f)
	b, _ := record.Encode(key, g)
	other, _ := record.Encode(api.Key{}, f)
	tooLong := a
	tooLong[5] = 9
	tooLong = resealed(key, tooLong)
	for _, x := range []struct {
		s       []byte
		l       []record.Frame
		skipped []api.Span
	}{
		{nil, nil, nil},
		{make([]byte, 29), nil, []api.Span{{From: 0, To: 29}}},
		{a[:], []record.Frame{f}, nil},
		{a[:29], nil, []api.Span{{From: 0, To: 29}}},
		{slices.Concat(a[:], b[:]), []record.Frame{f, g}, nil},
		{slices.Concat([]byte{211, 2}, a[:], []byte{5}), []record.Frame{f}, []api.Span{{From: 0, To: 2}, {From: 32, To: 33}}},
		{slices.Concat(a[:], []byte{211}, b[:], a[:]), []record.Frame{f, g, f}, []api.Span{{From: 30, To: 31}}},
		{slices.Concat(a[:20], b[:], a[:]), []record.Frame{g, f}, []api.Span{{From: 0, To: 20}}},
		{slices.Concat(b[:], other[:], tooLong[:], a[:]), []record.Frame{g, f}, []api.Span{{From: 30, To: 90}}},
	} {
		l, skipped, e := record.Received(key, x.s)
		want(t, "Received", l, x.l)
		want(t, "the spans of Received", skipped, x.skipped)
		want(t, "Received", e, api.OK)
	}
	full := slices.Repeat(a[:], record.MaxFrames)
	l, skipped, e := record.Received(key, full)
	want(t, "Received of 1024", len(l), record.MaxFrames)
	want(t, "the spans of 1024", skipped, nil)
	want(t, "Received of 1024", e, api.OK)
	l, skipped, e = record.Received(key, append(full, 0))
	wantError(t, "Received of too much", l, e, api.ErrLong)
	want(t, "the spans of too much", skipped, nil)
}

func TestReceivedIsNotSearchedAgain(t *testing.T) {
	// The last byte of the first frame is the mark of the second one.
	key := someKey()
	second, _ := record.Encode(key, framed(1, 2, 0))
	for counter := range record.MaxCounter {
		f := framed(4, counter, 0)
		s, _ := record.Encode(key, f)
		if s[record.Size-1] != record.Mark {
			continue
		}
		l, skipped, _ := record.Received(key, append(s[:], second[1:]...))
		want(t, "Received of two in one another", l, []record.Frame{f})
		want(t, "the spans of two in one another", skipped, []api.Span{{From: 30, To: 59}})
		return
	}
	t.Error("no frame ends with a mark")
}

func TestReceivedAfterAMark(t *testing.T) {
	key := someKey()
	inner, _ := record.Encode(key, framed(1, 2, 0))
	s := append([]byte{record.Mark}, inner[:]...)
	l, skipped, _ := record.Received(key, s)
	want(t, "Received after a mark", l, []record.Frame{framed(1, 2, 0)})
	want(t, "the spans after a mark", skipped, []api.Span{{From: 0, To: 1}})
}

func TestLost(t *testing.T) {
	for _, x := range []struct {
		counters, lost []int
		e              api.Errno
	}{
		{nil, nil, api.OK}, {[]int{7}, nil, api.OK}, {[]int{3, 6}, []int{4, 5}, api.OK}, {[]int{3, 4}, nil, api.OK}, {[]int{7, 7}, nil, api.OK},
		{[]int{4, 5, 8, 2, 4}, []int{6, 7, 3}, api.OK}, {[]int{9, 1, 3, 0, 2}, []int{2, 1}, api.OK}, {[]int{1, 3, 1, 3}, []int{2, 2}, api.OK},
		{[]int{0, 258}, nil, api.ErrMany}, {[]int{0, record.MaxCounter}, nil, api.ErrMany}, {[]int{0, 129, 0, 130}, nil, api.ErrMany},
	} {
		l := []record.Frame{framed(2, 99, 0)}
		for _, n := range x.counters {
			l = append(l, framed(1, n, 1, 5), framed(2, 1000, 0))
		}
		n, e := record.Lost(l, 1)
		want(t, "Lost", n, x.lost)
		want(t, "Lost", e, x.e)
	}
	n, e := record.Lost([]record.Frame{framed(0, 0, 0), framed(0, 257, 0)}, 0)
	want(t, "the number of Lost", len(n), 256)
	want(t, "Lost of 256", e, api.OK)
	for _, device := range []int{-1, 256} {
		n, e := record.Lost(nil, device)
		wantError(t, "Lost of a device", n, e, api.ErrRange)
	}
	for _, x := range badLists() {
		n, e := record.Lost(x.l, -1)
		wantError(t, "Lost of bad frames", n, e, x.e)
	}
}

// badLists has lists of frames, each with the error of its first bad frame.
func badLists() []struct {
	l []record.Frame
	e api.Errno
} {
	many := make([]record.Frame, record.MaxFrames+1)
	many[0].Samples[0] = nan
	type list = struct {
		l []record.Frame
		e api.Errno
	}
	lists := []list{{many, api.ErrMany}}
	bad := badFrames()
	for i, x := range bad {
		lists = append(lists, list{[]record.Frame{{}, x.f, bad[len(bad)-1-i].f}, x.e})
	}
	return lists
}

func TestAssembled(t *testing.T) {
	five := []float32{1, 2, 3, 4, 5}
	for _, x := range []struct {
		l       []record.Frame
		n       int
		samples []float32
		missing []api.Span
		e       api.Errno
	}{
		{nil, 0, nil, nil, api.OK},
		{nil, 3, make([]float32, 3), []api.Span{{From: 0, To: 3}}, api.OK},
		{[]record.Frame{framed(3, 0, 8, 1, 2, 3, 4, 5, 6, 7, 8), framed(3, 1, 3, 9, 0, 11)}, 16, []float32{1, 2, 3, 4, 5, 6, 7, 8, 9, 0, 11, 0, 0, 0, 0, 0}, []api.Span{{From: 11, To: 16}}, api.OK},
		{[]record.Frame{framed(3, 1, 1, 9), framed(3, 0, 2, 1, 2)}, 10, []float32{1, 2, 0, 0, 0, 0, 0, 0, 9, 0}, []api.Span{{From: 2, To: 8}, {From: 9, To: 10}}, api.OK},
		{[]record.Frame{framed(3, 0, 5, five...), framed(3, 0, 2, 1, 2), framed(4, 0, 1, 7)}, 5, five, nil, api.OK},
		{[]record.Frame{framed(3, 0, 5, five...)}, 2, []float32{1, 2}, nil, api.OK},
		{[]record.Frame{framed(3, 0, 2, 1, 0), framed(3, 0, 2, 1, negative)}, 2, []float32{1, 0}, nil, api.OK},
		{[]record.Frame{framed(3, 0, 1, 5), framed(3, 0, 2, 5, 6), framed(3, 0, 2, 5, 7)}, 2, nil, nil, api.ErrConflict},
		{[]record.Frame{framed(3, 0, 1, 5), framed(3, 0, 1, 0)}, 1, nil, nil, api.ErrConflict},
		{[]record.Frame{framed(3, 0, 2, 5, 6), framed(3, 0, 2, 5, 7)}, 1, []float32{5}, nil, api.OK},
		{[]record.Frame{framed(3, record.MaxCounter, 1, 5)}, 1, []float32{0}, []api.Span{{From: 0, To: 1}}, api.OK},
		{nil, -1, nil, nil, api.ErrRange},
		{nil, 4097, nil, nil, api.ErrRange},
	} {
		l, missing, e := record.Assembled(x.l, 3, x.n)
		for i := range l {
			l[i] += 0 // makes 0 of -0, which is printed differently
		}
		want(t, "Assembled", l, x.samples)
		want(t, "the spans of Assembled", missing, x.missing)
		want(t, "Assembled", e, x.e)
	}
	full := make([]record.Frame, record.MaxFrames)
	for _, device := range []int{0, 255} {
		l, _, e := record.Assembled(full, device, 4096)
		want(t, "the length of Assembled", len(l), 4096)
		want(t, "Assembled of 1024", e, api.OK)
		_, e = record.Lost(full, device)
		want(t, "Lost of 1024", e, api.OK)
	}
	for _, device := range []int{-1, 256} {
		l, _, e := record.Assembled(nil, device, 1)
		wantError(t, "Assembled of a device", l, e, api.ErrRange)
	}
	for _, x := range badLists() {
		l, missing, e := record.Assembled(x.l, -1, -1)
		wantError(t, "Assembled of bad frames", l, e, x.e)
		want(t, "the spans of bad frames", missing, nil)
	}
}
