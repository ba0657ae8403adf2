// Package quotient rounds quotients of integers, brings them to lowest terms, and compares them; all divisors are above 0.
package quotient

import (
	"cmp"

	"crumple/api"
)

// Down returns the greatest integer that is not above a quotient.
func Down(a, b int) int {
	q := a / b
	if a%b < 0 {
		q--
	}
	return q
}

// Up returns the least integer that is not below a quotient.
func Up(a, b int) int {
	return -Down(-a, b)
}

// Nearest returns the integer that is nearest to a quotient, from the middle the greater one.
func Nearest(a, b int) int {
	return Down(2*a+b, 2*b)
}

// Ratio returns a quotient in lowest terms.
func Ratio(a, b int) api.Ratio {
	common, rest := b, a%b
	for rest != 0 {
		common, rest = rest, common%rest
	}
	common = max(common, -common)
	return api.Ratio{Num: a / common, Den: b / common}
}

// Compare compares two ratios by their products, which must be integers of 64 bits.
func Compare(a, b api.Ratio) int {
	return cmp.Compare(a.Num*b.Den, b.Num*a.Den)
}
