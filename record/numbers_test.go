package record_test

import (
	"math"
	"math/cmplx"
	"slices"
	"strings"
	"testing"

	"crumple/api"
	"crumple/record"
)

// P1.1 (numbers): each function with ordinary inputs, at its limits, and with its errors in their order.

func TestIsName(t *testing.T) {
	for _, s := range []string{"a", "z", "A", "Z", "a_", "q0_Z9", strings.Repeat("x", 24)} {
		want(t, "IsName "+s, record.IsName(s), true)
	}
	for _, s := range []string{"", "_", "_a", "0", "9a", "a-b", "a b", "a\n", "ä", "aä", "a\xff", "\x00", "a@", "a[", "a`", "a{", "a/", "a:", "@", "[", "`", "{", strings.Repeat("x", 25)} {
		want(t, "IsName "+s, record.IsName(s), false)
	}
}

func TestDraw(t *testing.T) {
	for _, x := range []struct {
		number, n int
		l         []int
	}{
		{0, 3, []int{0, 2, 1}},
		{0, 0, nil},
		{api.MaxNumber, 1, []int{0}},
		{123456789, 10, []int{3, 4, 7, 2, 6, 5, 1, 8, 9, 0}},
		{999999999, 12, []int{7, 3, 4, 5, 6, 10, 0, 9, 8, 11, 2, 1}},
	} {
		l, e := record.Draw(x.number, x.n)
		want(t, "Draw", l, x.l)
		want(t, "Draw", e, api.OK)
	}
	l, e := record.Draw(7, api.MaxList)
	want(t, "Draw of 256", e, api.OK)
	want(t, "Draw of 256", l[:6], []int{15, 254, 163, 243, 41, 192})
	slices.Sort(l)
	for i, x := range l {
		want(t, "Draw of 256, sorted", x, i)
	}
	for _, x := range [][2]int{{-1, 3}, {api.MaxNumber + 1, 3}, {0, -1}, {0, 257}, {math.MinInt, math.MaxInt}} {
		l, e := record.Draw(x[0], x[1])
		wantError(t, "Draw", l, e, api.ErrRange)
	}
}

func TestCheckRatio(t *testing.T) {
	for _, x := range []struct {
		num, den int
		e        api.Errno
	}{
		{0, 1, api.OK}, {1, 1, api.OK}, {-7, 3, api.OK}, {7, 3, api.OK},
		{999999999, 999999998, api.OK}, {-999999999, 1, api.OK},
		{0, 2, api.ErrForm}, {2, 4, api.ErrForm}, {-6, 9, api.ErrForm}, {999999999, 999999999, api.ErrForm},
		{1, 0, api.ErrRange}, {0, 0, api.ErrRange}, {1, -1, api.ErrRange}, {2, -4, api.ErrRange},
		{1000000000, 1, api.ErrRange}, {-1000000000, 2, api.ErrRange}, {1, 1000000000, api.ErrRange}, {2, 1000000000, api.ErrRange},
		{math.MinInt, -1, api.ErrRange}, {math.MinInt, math.MinInt, api.ErrRange},
	} {
		want(t, "CheckRatio", record.CheckRatio(api.Ratio{Num: x.num, Den: x.den}), x.e)
	}
}

func TestCheckSample(t *testing.T) {
	for _, x := range []struct {
		x float32
		e api.Errno
	}{
		{0, api.OK}, {negative, api.OK}, {1024, api.OK}, {-1024, api.OK}, {0.0625, api.OK}, {-1023.9375, api.OK},
		{1024.0625, api.ErrRange}, {-1024.0625, api.ErrRange}, {0.03125, api.ErrRange}, {-0.1, api.ErrRange},
		{math.SmallestNonzeroFloat32, api.ErrRange}, {math.MaxFloat32, api.ErrRange}, {-math.MaxFloat32, api.ErrRange},
		{nan, api.ErrForm}, {infinite, api.ErrForm}, {-infinite, api.ErrForm},
	} {
		want(t, "CheckSample", record.CheckSample(x.x), x.e)
	}
}

func TestCheckSamples(t *testing.T) {
	want(t, "CheckSamples of none", record.CheckSamples(nil), api.OK)
	want(t, "CheckSamples of 4096", record.CheckSamples(make([]float32, 4096)), api.OK)
	want(t, "CheckSamples of three", record.CheckSamples([]float32{1, -1, 1024}), api.OK)
	for e, l := range badSamples() {
		want(t, "CheckSamples", record.CheckSamples(l), e)
	}
	many := make([]float32, 4097)
	many[0] = nan
	want(t, "CheckSamples of too many", record.CheckSamples(many), api.ErrMany)
}

func TestFour(t *testing.T) {
	p, e := record.Four([4]float32{1, 2, 3, 4})
	want(t, "Four", p, [4]complex64{10, -2 + 2i, -2, -2 - 2i})
	want(t, "Four", e, api.OK)
	p, _ = record.Four([4]float32{1024, 1024, 1024, 1024})
	want(t, "Four of the greatest", p, [4]complex64{4096})
	for _, x := range []struct {
		l [4]float32
		e api.Errno
	}{
		{[4]float32{0, nan, 0.01}, api.ErrForm},
		{[4]float32{0, 0.01, nan}, api.ErrRange},
		{[4]float32{0, 0, 0, -infinite}, api.ErrForm},
		{[4]float32{0, 0, 0, 1025}, api.ErrRange},
	} {
		p, e := record.Four(x.l)
		wantError(t, "Four", p, e, x.e)
	}
}

func TestFourByItsDefinition(t *testing.T) {
	r := dice(1)
	for range 200 {
		l := [4]float32(someSamples(r, 4, api.MaxUnit))
		p, _ := record.Four(l)
		for k := range 4 {
			var sum complex128
			for n := range 4 {
				sum += complex(float64(l[n]), 0) * cmplx.Pow(-1i, complex(float64(k*n), 0))
			}
			if cmplx.Abs(sum-complex128(p[k])) > 1e-6 {
				t.Errorf("Four of %v at %d: got %v, want %v", l, k, p[k], sum)
			}
		}
	}
}

func TestUnfour(t *testing.T) {
	l, e := record.Unfour([4]complex64{10, -2 + 2i, -2, -2 - 2i})
	want(t, "Unfour", l, [4]float32{1, 2, 3, 4})
	want(t, "Unfour", e, api.OK)
	l, e = record.Unfour([4]complex64{-4096})
	want(t, "Unfour of the least", l, [4]float32{-1024, -1024, -1024, -1024})
	want(t, "Unfour of the least", e, api.OK)
	for _, x := range []struct {
		p [4]complex64
		e api.Errno
	}{
		{[4]complex64{1}, api.OK},
		{[4]complex64{0.0625}, api.ErrForm},                 // samples with the integer 1/4
		{[4]complex64{0, 1i}, api.ErrForm},                  // samples that are not real
		{[4]complex64{4096, 4096, 4096, 4096}, api.ErrForm}, // a sample of 4096
		{[4]complex64{1024, 1024, 1024, 1024}, api.OK},
		{[4]complex64{-1024, -1024, -1024, -1024}, api.OK},
		{[4]complex64{-1024.25, -1024.25, -1024.25, -1024.25}, api.ErrForm},
		{[4]complex64{1024.25, 1024.25, 1024.25, 1024.25}, api.ErrForm},
		{[4]complex64{4096.0625}, api.ErrRange},
		{[4]complex64{0, 0, -4096.0625i}, api.ErrRange},
		{[4]complex64{0, 0.03i}, api.ErrRange},
		{[4]complex64{5000, 0, 0, complex(0, nan)}, api.ErrForm},
		{[4]complex64{5000, 0, 0, complex(infinite, 0)}, api.ErrForm},
	} {
		l, e := record.Unfour(x.p)
		wantError(t, "Unfour", l, e, x.e)
	}
}

func TestCross(t *testing.T) {
	c, e := record.Cross([4]complex64{10, -2 + 2i, -2, -2 - 2i}, [4]complex64{1, 1, 1, 1})
	want(t, "Cross", c, [4]api.Gauss{{Re: 2560}, {Re: -512, Im: 512}, {Re: -512}, {Re: -512, Im: -512}})
	want(t, "Cross", e, api.OK)
	c, _ = record.Cross([4]complex64{1 + 2i, 4096 + 4096i, -4096 + 4096i, 0.0625i}, [4]complex64{3 - 5i, 4096 + 4096i, 4096 + 4096i, -0.0625})
	want(t, "Cross of others", c, [4]api.Gauss{{Re: -7 * 256, Im: 11 * 256}, {Re: 2 * 65536 * 65536}, {Im: 2 * 65536 * 65536}, {Im: -1}})
	large, none := [4]complex64{0, 4097}, [4]complex64{complex(nan, 0)}
	for _, x := range []struct {
		p, q [4]complex64
		e    api.Errno
	}{
		{large, none, api.ErrRange}, {none, large, api.ErrForm},
		{[4]complex64{}, large, api.ErrRange}, {[4]complex64{}, none, api.ErrForm},
		{[4]complex64{}, [4]complex64{0, 0, 0, 0.01i}, api.ErrRange},
	} {
		c, e := record.Cross(x.p, x.q)
		wantError(t, "Cross", c, e, x.e)
	}
}
