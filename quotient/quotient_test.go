package quotient_test

import (
	"cmp"
	"testing"

	"crumple/api"
	"crumple/quotient"
	"crumple/record"
)

func TestQuotients(t *testing.T) {
	for a := -50; a <= 50; a++ {
		for b := 1; b <= 9; b++ {
			if q := quotient.Down(a, b); q*b > a || (q+1)*b <= a {
				t.Errorf("Down of %d by %d: got %d", a, b, q)
			}
			if q := quotient.Up(a, b); q*b < a || (q-1)*b >= a {
				t.Errorf("Up of %d by %d: got %d", a, b, q)
			}
			// It is at most a half above, and less than a half below.
			if q := quotient.Nearest(a, b); 2*(q*b-a) > b || 2*(a-q*b) >= b {
				t.Errorf("Nearest of %d by %d: got %d", a, b, q)
			}
		}
	}
}

func TestRatio(t *testing.T) {
	for a := -50; a <= 50; a++ {
		for b := 1; b <= 60; b++ {
			x := quotient.Ratio(a, b)
			if e := record.CheckRatio(x); e != 0 || x.Num*b != a*x.Den {
				t.Errorf("Ratio of %d by %d: got %v, %d", a, b, x, e)
			}
		}
	}
}

func TestCompare(t *testing.T) {
	for a := -12; a <= 12; a++ {
		for b := 1; b <= 5; b++ {
			for c := -12; c <= 12; c++ {
				// These quotients are so few that a float64 tells each from the others.
				wanted := cmp.Compare(float64(a)/float64(b), float64(c)/5)
				if order := quotient.Compare(quotient.Ratio(a, b), quotient.Ratio(c, 5)); order != wanted {
					t.Errorf("Compare of %d/%d and %d/5: got %d, want %d", a, b, c, order, wanted)
				}
			}
		}
	}
	// No float64 tells these from each other.
	less, more := api.Ratio{Num: 4999994999999, Den: 999999}, api.Ratio{Num: 4999999999999, Den: 1000000}
	if quotient.Compare(less, more) != -1 || quotient.Compare(more, less) != 1 || quotient.Compare(more, more) != 0 {
		t.Errorf("Compare of %v and %v: they are told from each other by their products", less, more)
	}
}
