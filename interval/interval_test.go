package interval_test

import (
	"testing"

	"crumple/api"
	"crumple/interval"
)

// all returns all intervals between two numbers.
func all(low, high int) []api.Interval {
	var l []api.Interval
	for a := low; a <= high; a++ {
		for b := a; b <= high; b++ {
			l = append(l, api.Interval{Low: a, High: b})
		}
	}
	return l
}

func want[T comparable](t *testing.T, what string, got, wanted T) {
	t.Helper()
	if got != wanted {
		t.Errorf("%s: got %v, want %v", what, got, wanted)
	}
}

func TestOneInterval(t *testing.T) {
	want(t, "Only", interval.Only(-3), api.Interval{Low: -3, High: -3})
	want(t, "Around", interval.Around(-3, 5), api.Interval{Low: -8, High: 2})
	want(t, "Around at no distance", interval.Around(4, 0), api.Interval{Low: 4, High: 4})
	want(t, "Opposite", interval.Opposite(api.Interval{Low: -3, High: 5}), api.Interval{Low: -5, High: 3})
}

func TestSum(t *testing.T) {
	want(t, "Sum of none", interval.Sum(), api.Interval{})
	want(t, "Sum", interval.Sum(api.Interval{Low: -1, High: 4}, api.Interval{Low: 2, High: 3}, api.Interval{Low: -9, High: -8}), api.Interval{Low: -8, High: -1})
}

func TestTwoIntervals(t *testing.T) {
	for _, a := range all(-4, 4) {
		for _, b := range all(-4, 4) {
			products := api.Interval{Low: 100, High: -100}
			common, outside := 0, 0
			for x := a.Low; x <= a.High; x++ {
				for y := b.Low; y <= b.High; y++ {
					products = api.Interval{Low: min(products.Low, x*y), High: max(products.High, x*y)}
					if x == y {
						common++
					}
				}
				if x < b.Low || x > b.High {
					outside++
				}
			}
			want(t, "Product", interval.Product(a, b), products)
			want(t, "Meet", interval.Meet(a, b), common > 0)
			want(t, "Has", interval.Has(b, a), outside == 0)
			x := interval.Common(a, b)
			want(t, "the size of Common", max(0, x.High-x.Low+1), common)
			if common > 0 {
				want(t, "Common in both", interval.Has(a, x) && interval.Has(b, x), true)
			}
		}
	}
}
