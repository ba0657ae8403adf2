package record

import (
	"math"

	"crumple/api"
)

// parts is the number of steps from one whole number to the next: samples are multiples of 1/16.
const parts = 16

// The numbers by which a permutation goes on.
const (
	drawFactor  = 40692
	drawStep    = 13
	drawModulus = 2147483399
)

// IsName reports whether a string is a name.
func IsName(s string) bool {
	if len(s) == 0 || len(s) > api.MaxName {
		return false
	}
	for i, c := range s {
		if !isLetter(c) && (i == 0 || !isDigit(c) && c != '_') {
			return false
		}
	}
	return true
}

func isLetter(c rune) bool {
	return c >= 'A' && c <= 'Z' || c >= 'a' && c <= 'z'
}

func isDigit(c rune) bool {
	return c >= '0' && c <= '9'
}

// Draw returns the permutation of n elements by a number.
func Draw(number, n int) ([]int, api.Errno) {
	if e := first(within(number, 0, api.MaxNumber), within(n, 0, api.MaxList)); e != api.OK {
		return nil, e
	}
	l := make([]int, n)
	for i := range l {
		l[i] = i
	}
	x := number
	for i := n - 1; i >= 1; i-- {
		x = (drawFactor*x + drawStep) % drawModulus
		other := x % (i + 1)
		l[i], l[other] = l[other], l[i]
	}
	return l, api.OK
}

// CheckRatio returns the first error of a ratio, or OK.
func CheckRatio(x api.Ratio) api.Errno {
	return first(
		within(x.Num, -api.MaxNumber, api.MaxNumber),
		within(x.Den, 1, api.MaxNumber),
		when(divisor(x.Num, x.Den) != 1, api.ErrForm),
	)
}

// divisor returns the greatest common divisor of two integers; of 0 and b it is the absolute value of b.
func divisor(a, b int) int {
	for b != 0 {
		a, b = b, a%b
	}
	return max(a, -a)
}

// CheckSample returns the first error of a sample, or OK.
func CheckSample(x float32) api.Errno {
	return first(checkFinite(x), checkSixteenths(x, api.MaxUnit))
}

// CheckSamples returns the first error of samples, or OK.
func CheckSamples(l []float32) api.Errno {
	return first(when(len(l) > api.MaxSamples, api.ErrMany), firstError(l, CheckSample))
}

// checkFinite returns ErrForm for NaN and infinities, or OK.
func checkFinite(x float32) api.Errno {
	wide := float64(x)
	return when(math.IsNaN(wide) || math.IsInf(wide, 0), api.ErrForm)
}

// checkSixteenths returns ErrRange if a number is not some sixteenths, at most as many as most, or OK.
func checkSixteenths(x float32, most float64) api.Errno {
	// A product in float32 could overflow, or round what is not a multiple.
	scaled := parts * float64(x)
	return when(math.Abs(scaled) > most || scaled != math.Trunc(scaled), api.ErrRange)
}

// unit returns the integer of a sample, or of a part of a panel.
func unit(x float32) int {
	return int(parts * x)
}

// sample returns the sample with an integer.
func sample(u int) float32 {
	return float32(u) / parts
}

// units returns the integers of samples.
func units(l []float32) []int {
	return mapped(l, func(x float32) int { return unit(x) })
}

// samples returns the samples with some integers.
func samples(l []int) []float32 {
	return mapped(l, func(u int) float32 { return sample(u) })
}
