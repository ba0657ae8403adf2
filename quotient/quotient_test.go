package quotient_test

import (
	"testing"

	"crumple/quotient"
	"crumple/record"
)

func TestQuotients(t *testing.T) {
	for a := -50; a <= 50; a++ {
		for b := 1; b <= 9; b++ {
			if q := quotient.Down(a, b); q*b > a || (q+1)*b <= a {
				t.Errorf("Down of %d by %d: got %d", a, b, q)
			}
			if q := quotient.Up(a, b); q*b < a || (q-1)*b >= a {
				t.Errorf("Up of %d by %d: got %d", a, b, q)
			}
			// It is at most a half above, and less than a half below.
			if q := quotient.Nearest(a, b); 2*(q*b-a) > b || 2*(a-q*b) >= b {
				t.Errorf("Nearest of %d by %d: got %d", a, b, q)
			}
		}
	}
}

func TestRatio(t *testing.T) {
	for a := -50; a <= 50; a++ {
		for b := 1; b <= 60; b++ {
			x := quotient.Ratio(a, b)
			if e := record.CheckRatio(x); e != 0 || x.Num*b != a*x.Den {
				t.Errorf("Ratio of %d by %d: got %v, %d", a, b, x, e)
			}
		}
	}
}
