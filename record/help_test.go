package record_test

import (
	"fmt"
	"math"
	"math/rand/v2"
	"testing"

	"crumple/api"
	"crumple/record"
)

var (
	nan      = float32(math.NaN())
	infinite = float32(math.Inf(1))
	negative = float32(math.Copysign(0, -1))
)

// want compares two results as they are printed: nil and empty lists are alike.
func want[T any](t *testing.T, what string, got, wanted T) {
	t.Helper()
	if a, b := fmt.Sprintf("%v", got), fmt.Sprintf("%v", wanted); a != b {
		t.Errorf("%s: got %s, want %s", what, a, b)
	}
}

// wantError checks an error, and that a result beside one is its zero value.
func wantError[T any](t *testing.T, what string, got T, e, wanted api.Errno) {
	t.Helper()
	want(t, what, e, wanted)
	if e != api.OK {
		want(t, what+" beside the error", got, *new(T))
	}
}

func dice(seed uint64) *rand.Rand {
	return rand.New(rand.NewPCG(seed, 1))
}

// sixteenths returns the samples with some integers.
func sixteenths(l ...int) []float32 {
	var s []float32
	for _, u := range l {
		s = append(s, float32(u)/16)
	}
	return s
}

// someSamples returns n samples whose integers are at most most.
func someSamples(r *rand.Rand, n, most int) []float32 {
	var s []float32
	for range n {
		s = append(s, float32(r.IntN(2*most+1)-most)/16)
	}
	return s
}

func integer(x float32) int { return int(16 * float64(x)) }

// badSamples has a list for each error of samples.
func badSamples() map[api.Errno][]float32 {
	return map[api.Errno][]float32{
		api.ErrMany:  make([]float32, api.MaxSamples+1),
		api.ErrForm:  {1, nan, 0.01},
		api.ErrRange: {1, 0.01, nan},
	}
}

func framed(device, counter, length int, l ...float32) record.Frame {
	f := record.Frame{Device: device, Counter: counter, Length: length}
	copy(f.Samples[:], l)
	return f
}
