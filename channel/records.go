package channel

import (
	"cmp"

	"crumple/api"
	"crumple/check"
	"crumple/lists"
	"crumple/record"
)

// parts is the number of integers from one whole sample to the next.
const parts = api.MaxUnit / api.MaxValue

// unit returns the integer of a sample.
func unit(x float32) int {
	return int(parts * x)
}

// sample returns the sample with an integer.
func sample(u int) float32 {
	return float32(u) / parts
}

// units returns the integers of samples.
func units(l []float32) []int {
	return lists.Mapped(l, unit)
}

// Turned returns a record with the sign of its code.
func Turned(l []float32, c Code) ([]float32, api.Errno) {
	if e := check.First(record.CheckSamples(l), CheckCode(c)); e != api.OK {
		return nil, e
	}
	turned := make([]float32, len(l))
	copy(turned, l)
	if c.Sign < 0 {
		for i := range len(turned) {
			// The difference, unlike the product with -1, is not -0 for 0.
			turned[i] = 0 - turned[i]
		}
	}
	return turned, api.OK
}

// Agreement returns the sign of the product of two records.
func Agreement(a, b []float32) (int, api.Errno) {
	e := check.First(
		record.CheckSamples(a),
		record.CheckSamples(b),
		check.When(len(a) != len(b), api.ErrShape),
	)
	if e != api.OK {
		return 0, e
	}
	product := 0
	for i := range len(a) {
		product += unit(a[i]) * unit(b[i])
	}
	return cmp.Compare(product, 0), api.OK
}

// checkRecords returns the first error of several records of one length, or OK.
func checkRecords(l [][]float32) api.Errno {
	return check.First(
		check.When(len(l) == 0, api.ErrEmpty),
		check.When(len(l) > MaxMany, api.ErrMany),
		check.Each(l, func(r []float32) api.Errno {
			return check.First(record.CheckSamples(r), check.When(len(r) != len(l[0]), api.ErrShape))
		}),
	)
}

// Squares returns the sums of the squares of several records.
func Squares(l [][]float32) ([]int, api.Errno) {
	if e := checkRecords(l); e != api.OK {
		return nil, e
	}
	squares := make([]int, len(l[0]))
	for _, r := range l {
		for i, u := range units(r) {
			squares[i] += u * u
		}
	}
	return squares, api.OK
}

// running returns the sums of a start and the integers up to each one.
func running(l []int, start int) []int {
	return lists.Mapped(l, func(x int) int {
		start += x
		return start
	})
}

// Speeds returns the sums of a record's integers.
func Speeds(l []float32, start int) ([]int, api.Errno) {
	e := check.First(record.CheckSamples(l), check.Within(start, -api.MaxNumber, api.MaxNumber))
	if e != api.OK {
		return nil, e
	}
	return running(units(l), start), api.OK
}

// Ways returns the sums of a record's speeds.
func Ways(l []float32, start int) ([]int, api.Errno) {
	speeds, e := Speeds(l, start)
	if e != api.OK {
		return nil, e
	}
	return running(speeds, 0), api.OK
}
