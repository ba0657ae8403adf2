package channel

import (
	"crumple/api"
	"crumple/check"
	"crumple/interval"
	"crumple/lists"
	"crumple/quotient"
	"crumple/record"
)

// ends is the least and the greatest of some products.
type ends [2]int

// rounding makes an interval of both ends of products that are divided.
type rounding struct {
	low, high func(a, b int) int
}

// outward returns the rounding by which nothing is lost.
func outward() rounding {
	return rounding{low: quotient.Down, high: quotient.Up}
}

// divided returns the interval of ends that are divided by a number above 0.
func (r rounding) divided(e ends, divisor int) api.Interval {
	return api.Interval{Low: r.low(e[0], divisor), High: r.high(e[1], divisor)}
}

// products returns the ends of all products of two intervals' numbers.
func products(a, b api.Interval) ends {
	x := interval.Product(a, b)
	return ends{x.Low, x.High}
}

// CheckSensor returns the first error of a sensor, or OK.
func CheckSensor(s Sensor) api.Errno {
	return check.First(
		check.When(!record.IsName(s.Name), api.ErrName),
		check.Within(s.Scale, 1, api.MaxUnit),
		check.Interval(s.Sense, 1, MaxSense),
	)
}

// checkZero returns the first error of a record and the number of its samples that are the offset, or OK.
func checkZero(l []float32, zero int) api.Errno {
	return check.First(
		record.CheckSamples(l),
		check.Within(zero, 1, MaxZero),
		check.When(len(l) < zero, api.ErrShort),
	)
}

// Offset returns the offset of a record, from its first samples.
func Offset(l []float32, zero int) (api.Interval, api.Errno) {
	if e := checkZero(l, zero); e != api.OK {
		return api.Interval{}, e
	}
	x, e := record.Extremes(l[:zero])
	return api.Interval{Low: x.Low, High: x.High}, e
}

// Converted returns the values of a record.
func Converted(s Sensor, l []float32, zero int) ([]Value, api.Errno) {
	if e := CheckSensor(s); e != api.OK {
		return nil, e
	}
	offset, e := Offset(l, zero)
	if e != api.OK {
		return nil, e
	}
	return lists.Mapped(l, func(x float32) Value { return s.value(unit(x), offset) }), api.OK
}

// value returns what a sensor has measured with the integer of a sample.
func (s Sensor) value(u int, offset api.Interval) Value {
	moved := api.Interval{Low: u - offset.High, High: u - offset.Low}
	x := outward().divided(products(moved, s.Sense), Whole)
	return Value{Low: x.Low, High: x.High, Under: u <= -s.Scale, Over: u >= s.Scale}
}

// Shunted reports whether a sensor passes a shunt check.
func Shunted(s Sensor, expected, measured int) (bool, api.Errno) {
	e := check.First(
		CheckSensor(s),
		check.Within(expected, 1, api.MaxUnit),
		check.Within(measured, 1, api.MaxUnit),
	)
	if e != api.OK {
		return false, e
	}
	x := outward().divided(products(interval.Only(measured), s.Sense), Whole)
	permitted := ends{x.Low, x.High}
	// What lies between two ends does not move them.
	return permitted == ends{min(x.Low, expected), max(x.High, expected)}, api.OK
}
