package garage

import (
	"crumple/api"
	"crumple/check"
)

// CheckHall returns the first error of a hall, or OK.
func CheckHall(h Hall) api.Errno {
	return check.First(
		check.Within(h.Doors, 1, MaxDoors),
		check.Within(h.Base, 0, MaxWait),
		check.Each(h.Tables[:], checkTable),
	)
}

// checkTable returns the first error of a table of waits, or OK.
func checkTable(l []Step) api.Errno {
	// From where to where the next step may begin, and its least wait: the first one begins at 0.
	from, to, least := 0, 0, 0
	return check.First(check.Count(len(l), MaxSteps), check.Each(l, func(s Step) api.Errno {
		e := check.First(
			check.Within(s.From, 0, MaxMeasure),
			check.Within(s.Wait, 0, MaxWait),
			check.When(s.From < from || s.From > to || s.Wait < least, api.ErrOrder),
		)
		from, to, least = s.From+1, MaxMeasure, s.Wait
		return e
	}))
}

// checkMeasured returns ErrRange if something that is measured is not in its range, or OK.
func checkMeasured(values [3]int) api.Errno {
	return check.Each(values[:], func(x int) api.Errno { return check.Within(x, 0, MaxMeasure) })
}

// wait returns the wait after what was measured.
func (h Hall) wait(values [3]int) int {
	wait := 0
	for i, table := range h.Tables {
		for _, s := range table {
			// Waits do not descend: the last step that begins at most at the number has the greatest one.
			if s.From <= values[i] {
				wait = max(wait, s.Wait)
			}
		}
	}
	return wait
}

// Wait returns the wait after what was measured.
func Wait(h Hall, values [3]int) (int, api.Errno) {
	if e := check.First(CheckHall(h), checkMeasured(values)); e != api.OK {
		return 0, e
	}
	return h.wait(values), api.OK
}
