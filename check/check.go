// Package check finds the first error of arguments and of lists. It is for all layers from channel on; record depends on api alone.
package check

import (
	"crumple/api"
	"crumple/record"
)

// Names is names that are taken.
type Names map[string]bool

// First returns the first of some errors that is not OK, or OK.
func First(l ...api.Errno) api.Errno {
	for _, e := range l {
		if e != api.OK {
			return e
		}
	}
	return api.OK
}

// When returns an error if something is wrong, or OK.
func When(wrong bool, e api.Errno) api.Errno {
	if wrong {
		return e
	}
	return api.OK
}

// Within returns ErrRange if a number is not from low to high, or OK.
func Within(x, low, high int) api.Errno {
	return When(x < low || x > high, api.ErrRange)
}

// Interval returns ErrRange if an end is not from low to high, ErrOrder if the ends are in the wrong order, or OK.
func Interval(x api.Interval, low, high int) api.Errno {
	return First(
		Within(x.Low, low, high),
		Within(x.High, low, high),
		When(x.Low > x.High, api.ErrOrder),
	)
}

// Each returns the error of the first element with one, or OK.
func Each[A any](l []A, check func(A) api.Errno) api.Errno {
	for _, x := range l {
		if e := check(x); e != api.OK {
			return e
		}
	}
	return api.OK
}

// Name returns ErrName if a string is not a name, or OK.
func Name(s string) api.Errno {
	return When(!record.IsName(s), api.ErrName)
}

// Take returns ErrTwice if a name is taken, or OK; from then on it is taken.
func (n Names) Take(name string) api.Errno {
	taken := n[name]
	n[name] = true
	return When(taken, api.ErrTwice)
}

// Count returns ErrEmpty if there are no elements, ErrMany if there are more than most, or OK.
func Count(n, most int) api.Errno {
	return First(When(n == 0, api.ErrEmpty), When(n > most, api.ErrMany))
}
