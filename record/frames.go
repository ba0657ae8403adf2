package record

import (
	"iter"

	"crumple/api"
)

// body is the number of bytes of a frame before its seal.
const body = Size - len(api.Key{})

// placed is a frame with its index: that of its first byte in a stream, or of its first sample in a record.
type placed struct {
	Frame
	at int
}

// Seal returns the seal of bytes by a key.
func Seal(key api.Key, s []byte) (api.Key, api.Errno) {
	if len(s) > api.MaxStream {
		return api.Key{}, api.ErrLong
	}
	return sealed(key, s), api.OK
}

func sealed(key api.Key, s []byte) api.Key {
	for j := range key {
		factor, step := byte(6*j+5), byte(7*j+3)
		x := key[j]
		for _, b := range s {
			x = factor*x + b + step
		}
		key[j] = x
	}
	return key
}

// isSealed reports whether the last bytes are the seal of those before; there are as many as a seal has.
func isSealed(key api.Key, s []byte) bool {
	end := len(s) - len(key)
	var seal api.Key
	copy(seal[:], s[end:])
	return seal == sealed(key, s[:end])
}

// check returns the first error of a frame, or OK.
func (f Frame) check() api.Errno {
	return first(
		within(f.Device, 0, maxDevice),
		within(f.Counter, 0, MaxCounter),
		within(f.Length, 0, Values),
		firstError(f.Samples[:], CheckSample),
		when(f != f.trimmed(), api.ErrForm),
	)
}

// trimmed returns a frame whose samples from its length on, which may be any integer, are 0.
func (f Frame) trimmed() Frame {
	for k := range Values {
		if k >= f.Length {
			f.Samples[k] = 0
		}
	}
	return f
}

// checkFrames returns the first error of a list of frames, or OK.
func checkFrames(l []Frame) api.Errno {
	return first(when(len(l) > MaxFrames, api.ErrMany), firstError(l, Frame.check))
}

// Encode returns the bytes of a frame by a key.
func Encode(key api.Key, f Frame) ([Size]byte, api.Errno) {
	if e := f.check(); e != api.OK {
		return [Size]byte{}, e
	}
	s := []byte{Mark, byte(f.Device), byte(f.Counter >> 16), byte(f.Counter >> 8), byte(f.Counter), byte(f.Length)}
	s = withUnits(s, f.Samples[:])
	seal := sealed(key, s)
	var whole [Size]byte
	copy(whole[:body], s)
	copy(whole[body:], seal[:])
	return whole, api.OK
}

// Decode returns the frame of bytes by a key.
func Decode(key api.Key, s [Size]byte) (Frame, api.Errno) {
	if s[0] != Mark {
		return Frame{}, api.ErrForm
	}
	if !isSealed(key, s[:]) {
		return Frame{}, api.ErrCheck
	}
	f := Frame{
		Device:  int(s[1]),
		Counter: int(s[2])<<16 | int(s[3])<<8 | int(s[4]),
		Length:  int(s[5]),
	}
	copy(f.Samples[:], readUnits(s[body-2*Values:body]))
	if e := f.check(); e != api.OK {
		return Frame{}, e
	}
	return f, api.OK
}

// Received returns the frames that are received by a key, and the spans of bytes that are skipped.
func Received(key api.Key, s []byte) ([]Frame, []api.Span, api.Errno) {
	if len(s) > MaxFrames*Size {
		return nil, nil, api.ErrLong
	}
	var l []Frame
	var skipped []api.Span
	end := 0
	for p := range found(key, s) {
		skipped = withSpan(skipped, end, p.at)
		l = append(l, p.Frame)
		end = p.at + Size
	}
	return l, withSpan(skipped, end, len(s)), api.OK
}

// found visits the frames that are received, with the indices of their first bytes.
func found(key api.Key, s []byte) iter.Seq[placed] {
	return func(visit func(placed) bool) {
		for at := 0; at+Size <= len(s); {
			var next [Size]byte
			copy(next[:], s[at:])
			f, e := Decode(key, next)
			if e != api.OK {
				at++
				continue
			}
			if !visit(placed{Frame: f, at: at}) {
				return
			}
			at += Size
		}
	}
}

// withSpan returns ascending spans with a further one; it joins the last one if they touch, and is left out if it is empty.
func withSpan(l []api.Span, from, to int) []api.Span {
	if from == to {
		return l
	}
	if n := len(l); n > 0 && l[n-1].To == from {
		l[n-1].To = to
		return l
	}
	return append(l, api.Span{From: from, To: to})
}

// Lost returns the counters of a device that are lost.
func Lost(l []Frame, device int) ([]int, api.Errno) {
	if e := first(checkFrames(l), within(device, 0, maxDevice)); e != api.OK {
		return nil, e
	}
	counters := mapped(ofDevice(l, device), func(p placed) int { return p.Counter })
	var lost []int
	for i := 1; i < len(counters); i++ {
		for c := counters[i-1] + 1; c < counters[i]; c++ {
			// Millions may be lost between two frames.
			if len(lost) == api.MaxList {
				return nil, api.ErrMany
			}
			lost = append(lost, c)
		}
	}
	return lost, api.OK
}

// ofDevice returns the frames of a device, with the indices of their first samples in the record.
func ofDevice(l []Frame, device int) []placed {
	var own []placed
	for _, f := range l {
		if f.Device == device {
			own = append(own, placed{Frame: f, at: Values * f.Counter})
		}
	}
	return own
}

// Assembled returns the record of a device, and the spans of samples that are missing.
func Assembled(l []Frame, device, n int) ([]float32, []api.Span, api.Errno) {
	e := first(checkFrames(l), within(device, 0, maxDevice), within(n, 0, api.MaxSamples))
	if e != api.OK {
		return nil, nil, e
	}
	kept, e := keptSamples(ofDevice(l, device), n)
	if e != api.OK {
		return nil, nil, e
	}
	whole := make([]float32, n)
	var missing []api.Span
	for i := range n {
		x, ok := kept[i]
		if !ok {
			missing = withSpan(missing, i, i+1)
		}
		whole[i] = x
	}
	return whole, missing, api.OK
}

// keptSamples returns the samples of frames by their indices below n, or ErrConflict.
func keptSamples(l []placed, n int) (map[int]float32, api.Errno) {
	kept := map[int]float32{}
	for _, p := range l {
		for k := range p.Length {
			at := p.at + k
			if at >= n {
				break
			}
			x, ok := kept[at]
			if ok && x != p.Samples[k] {
				return nil, api.ErrConflict
			}
			kept[at] = p.Samples[k]
		}
	}
	return kept, api.OK
}
