package barrier

import (
	"iter"

	"crumple/api"
	"crumple/check"
	"crumple/quotient"
)

// CheckTow returns the first error of a tow, or OK.
func CheckTow(t Tow) api.Errno {
	return check.First(
		check.Count(len(t.Pull), MaxCells),
		check.Each(t.Pull, func(pull int) api.Errno { return check.Within(pull, 0, MaxPull) }),
		check.Interval(t.Friction, 0, MaxPull),
		check.Interval(t.Brake, 0, MaxPull),
		check.Within(t.Wall, 1, len(t.Pull)),
	)
}

// checkCell returns ErrUnknown if a cell is not from 0 to the wall, or OK.
func (t Tow) checkCell(cell int) api.Errno {
	return check.When(cell < 0 || cell > t.Wall, api.ErrUnknown)
}

// cells visits the cells from 0 on, each with the squared speed of a friction's run.
func (t Tow) cells(friction int) iter.Seq2[int, int] {
	return func(visit func(int, int) bool) {
		square := 0
		if !visit(0, square) {
			return
		}
		for i, pull := range t.Pull {
			square = max(0, square+pull-friction)
			if !visit(i+1, square) {
				return
			}
		}
	}
}

// run returns the squared speeds of a friction.
func (t Tow) run(friction int) []int {
	run := make([]int, 0, len(t.Pull)+1)
	for _, square := range t.cells(friction) {
		run = append(run, square)
	}
	return run
}

// bound returns the greatest squared speed at a cell with which all brakes of the tow stop a car at the wall, or before it.
func (t Tow) bound(cell int) int {
	return (t.Wall - cell) * (t.Brake.Low + t.Friction.Low)
}

// Run returns the squared speeds of a friction.
func Run(t Tow, friction int) ([]int, api.Errno) {
	if e := check.First(CheckTow(t), check.Within(friction, t.Friction.Low, t.Friction.High)); e != api.OK {
		return nil, e
	}
	return t.run(friction), api.OK
}

// Reached returns the intervals of squared speeds.
func Reached(t Tow) ([]api.Interval, api.Errno) {
	if e := CheckTow(t); e != api.OK {
		return nil, e
	}
	slow := t.run(t.Friction.High)
	reached := make([]api.Interval, 0, len(slow))
	for cell, square := range t.cells(t.Friction.Low) {
		reached = append(reached, api.Interval{Low: slow[cell], High: square})
	}
	return reached, api.OK
}

// Braked returns the cell at which a car stops that is braked from a cell on.
func Braked(t Tow, cell, friction, brake int) (int, api.Errno) {
	e := check.First(
		CheckTow(t),
		t.checkCell(cell),
		check.Within(friction, t.Friction.Low, t.Friction.High),
		check.Within(brake, t.Brake.Low, t.Brake.High),
	)
	if e != api.OK {
		return 0, e
	}
	square, loss := t.run(friction)[cell], friction+brake
	switch {
	case square == 0:
		return cell, api.OK
	case loss == 0:
		return 0, api.ErrNone
	}
	return cell + quotient.Up(square, loss), api.OK
}

// Safe reports whether a cell is safe.
func Safe(t Tow, cell int) (bool, api.Errno) {
	if e := check.First(CheckTow(t), t.checkCell(cell)); e != api.OK {
		return false, e
	}
	// The least friction gives the greatest speed, and takes, with the least brake, the least away.
	return t.run(t.Friction.Low)[cell] <= t.bound(cell), api.OK
}

// Last returns the last stopping point.
func Last(t Tow) (int, api.Errno) {
	if e := CheckTow(t); e != api.OK {
		return 0, e
	}
	last := 0
search:
	for cell, square := range t.cells(t.Friction.Low) {
		switch {
		case cell > t.Wall, square > t.bound(cell):
			break search
		default:
			last = cell
		}
	}
	return last, api.OK
}

// Table returns the table of a tow.
func Table(t Tow) ([]int, api.Errno) {
	if e := CheckTow(t); e != api.OK {
		return nil, e
	}
	return t.run(t.Friction.Low)[:t.Wall+1], api.OK
}

// checkTable returns the first error of a table, or OK.
func (t Tow) checkTable(table []int) api.Errno {
	return check.First(
		check.When(len(table) != t.Wall+1, api.ErrShape),
		check.Each(table, func(x int) api.Errno { return check.Within(x, 0, MaxTable) }),
	)
}

// proves reports whether a table proves a cell.
func (t Tow) proves(table []int, cell int) bool {
	for i := range t.Wall {
		if table[i+1] < table[i]+t.Pull[i]-t.Friction.Low {
			return false
		}
	}
	for i := range cell + 1 {
		if table[i] > t.bound(i) {
			return false
		}
	}
	return true
}

// CheckTable returns OK if a table proves a cell.
func CheckTable(t Tow, table []int, cell int) api.Errno {
	e := check.First(CheckTow(t), t.checkTable(table), t.checkCell(cell))
	if e != api.OK {
		return e
	}
	return check.When(!t.proves(table, cell), api.ErrProof)
}
