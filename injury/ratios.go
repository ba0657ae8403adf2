package injury

import (
	"slices"

	"crumple/api"
	"crumple/check"
	"crumple/quotient"
)

// checkSize returns the first error of a ratio, or OK.
func checkSize(x api.Ratio) api.Errno {
	return check.First(
		check.Within(x.Num, 0, MaxSize),
		check.Within(x.Den, 1, MaxDen),
		// All errors are looked for, but nothing can be divided by 0.
		check.When(x.Den > 0 && quotient.Ratio(x.Num, x.Den) != x, api.ErrForm),
	)
}

// whole returns an integer as a ratio.
func whole(x int) api.Ratio {
	return api.Ratio{Num: x, Den: 1}
}

// greatest returns the greatest one of some ratios, and the first index that has it.
func greatest(l []api.Ratio) (int, api.Ratio) {
	size := slices.MaxFunc(l, quotient.Compare)
	return slices.Index(l, size), size
}

// checkSizes returns the first error of ratios, or OK.
func checkSizes(l []api.Ratio) api.Errno {
	return check.First(check.Count(len(l), MaxRepeats), check.Each(l, checkSize))
}

// Median returns the median of ratios.
func Median(l []api.Ratio) (api.Ratio, api.Errno) {
	if e := checkSizes(l); e != api.OK {
		return api.Ratio{}, e
	}
	ordered := slices.Clone(l)
	slices.SortFunc(ordered, quotient.Compare)
	return ordered[(len(l)-1)/2], api.OK
}

// Ranked returns the indices of ratios by their sizes.
func Ranked(l []api.Ratio) ([]int, api.Errno) {
	if e := checkSizes(l); e != api.OK {
		return nil, e
	}
	var indices []int
	for i := range len(l) {
		indices = append(indices, i)
	}
	// The sort is stable: of several with the same size the indices stay ascending.
	slices.SortStableFunc(indices, func(i, j int) int { return quotient.Compare(l[i], l[j]) })
	return indices, api.OK
}
