package record

import "crumple/api"

// first returns the first of some errors that is not OK, or OK.
func first(l ...api.Errno) api.Errno {
	for _, e := range l {
		if e != api.OK {
			return e
		}
	}
	return api.OK
}

// when returns an error if something is wrong, or OK.
func when(wrong bool, e api.Errno) api.Errno {
	if wrong {
		return e
	}
	return api.OK
}

// within returns ErrRange if a number is not from low to high, or OK.
func within(x, low, high int) api.Errno {
	return when(x < low || x > high, api.ErrRange)
}

// firstError returns the error of the first element with one, or OK.
func firstError[A any](l []A, check func(A) api.Errno) api.Errno {
	for _, x := range l {
		if e := check(x); e != api.OK {
			return e
		}
	}
	return api.OK
}

// mapped returns what a function makes of each element.
func mapped[A, B any](l []A, change func(A) B) []B {
	changed := make([]B, 0, len(l))
	for _, x := range l {
		changed = append(changed, change(x))
	}
	return changed
}
