package barrier_test

import (
	"fmt"
	"math/big"
	"math/rand/v2"
	"slices"
	"testing"

	"crumple/api"
	"crumple/barrier"
)

// P4.5 (consequences): what follows from the results, for many inputs; the dice are the same on each run.

// rounded returns the greatest integer that is not above a ratio, and the least one that is not below it.
func rounded(x *big.Rat) (int, int) {
	down := int(new(big.Int).Div(x.Num(), x.Denom()).Int64())
	if x.IsInt() {
		return down, down
	}
	return down, down + 1
}

func TestTrueSpeedIsInTheSpeedOfTheGates(t *testing.T) {
	r := dice(7)
	passed := 0
	for range 2000 {
		speed := big.NewRat(int64(between(r, 5000, 5000000)), int64(between(r, 1, 700)))
		start := big.NewRat(int64(r.IntN(1000000)), int64(between(r, 1, 50)))
		var l []barrier.Gate
		place := r.IntN(100)
		for range between(r, 2, barrier.MaxGates) {
			// The true time at which the car is there, and an interval around it that reaches no other gate's.
			time := big.NewRat(int64(place)*1000000, 1)
			time.Add(time.Quo(time, speed), start)
			low, high := rounded(time)
			if n := len(l); n > 0 {
				low = max(low-r.IntN(30), l[n-1].Time.High+1)
			}
			l = append(l, gate(place, low, high+r.IntN(30)))
			place += between(r, 2000, 10000)
		}
		if barrier.CheckGates(l) != api.OK {
			continue
		}
		passed++
		got, e := barrier.Speed(l)
		want(t, "Speed", e, api.OK)
		low, high := rounded(speed)
		want(t, fmt.Sprintf("whether %v is in %v", speed, got), got.Low <= low && high <= got.High, true)
	}
	want(t, "whether there were many", passed > 1000, true)
}

func TestRunsAreInWhatIsReached(t *testing.T) {
	r := dice(8)
	for range 500 {
		x := someTow(r)
		reached, e := barrier.Reached(x)
		want(t, "Reached", e, api.OK)
		met := make([][2]bool, len(reached))
		for friction := x.Friction.Low; friction <= x.Friction.High; friction++ {
			run, e := barrier.Run(x, friction)
			want(t, "Run", e, api.OK)
			want(t, "the number of cells", len(run), len(reached))
			for cell, square := range run {
				in := reached[cell]
				want(t, "whether a run is in what is reached", in.Low <= square && square <= in.High, true)
				met[cell][0] = met[cell][0] || square == in.Low
				met[cell][1] = met[cell][1] || square == in.High
			}
		}
		for _, ends := range met {
			want(t, "whether both ends are reached", ends, [2]bool{true, true})
		}
	}
}

func TestCarsStopBeforeTheWallFromTheLastStoppingPoint(t *testing.T) {
	r := dice(9)
	stops := 0
	for range 1000 {
		x := someTow(r)
		last, e := barrier.Last(x)
		want(t, "Last", e, api.OK)
		for cell := range last + 1 {
			for friction := x.Friction.Low; friction <= x.Friction.High; friction++ {
				for brake := x.Brake.Low; brake <= x.Brake.High; brake++ {
					stop, e := barrier.Braked(x, cell, friction, brake)
					want(t, "Braked", e, api.OK)
					want(t, fmt.Sprintf("whether %v stops from %d", x, cell), cell <= stop && stop <= x.Wall, true)
					stops++
				}
			}
		}
	}
	want(t, "whether there were many", stops > 10000, true)
}

func TestProvedCellsAreSafe(t *testing.T) {
	r := dice(10)
	proved := 0
	for range 3000 {
		x := someTow(r)
		table, e := barrier.Table(x)
		want(t, "Table", e, api.OK)
		last, e := barrier.Last(x)
		want(t, "Last", e, api.OK)
		want(t, "CheckTable of the table of a tow", barrier.CheckTable(x, table, last), api.OK)
		if last < x.Wall {
			want(t, "CheckTable behind the last stopping point", barrier.CheckTable(x, table, last+1), api.ErrProof)
		}
		// Greater integers are a table, too, if they go on; others may be none.
		for i := range table {
			table[i] = max(0, table[i]+between(r, -1, 3))
			if i > 0 && r.IntN(9) > 0 {
				table[i] = max(table[i], table[i-1]+x.Pull[i-1]-x.Friction.Low)
			}
		}
		before := true
		for cell := range x.Wall + 1 {
			is := barrier.CheckTable(x, table, cell) == api.OK
			want(t, "whether a cell is proved, and one before it is not", is && !before, false)
			before = is
			if !is {
				continue
			}
			safe, e := barrier.Safe(x, cell)
			wantOK(t, "Safe of a cell that is proved", safe, e, true)
			proved++
		}
	}
	want(t, "whether there were many", proved > 1000, true)
}

func TestStrongerBrakesAndFartherWalls(t *testing.T) {
	r := dice(11)
	farther := 0
	for range 2000 {
		x := someTow(r)
		last, e := barrier.Last(x)
		want(t, "Last", e, api.OK)
		stronger := x
		stronger.Brake.Low += r.IntN(4)
		stronger.Brake.High = max(stronger.Brake.Low, x.Brake.High+r.IntN(4))
		away := x
		away.Wall = between(r, x.Wall, len(x.Pull))
		for _, other := range []barrier.Tow{stronger, away} {
			later, e := barrier.Last(other)
			want(t, "Last with a stronger brake, or a wall farther away", e, api.OK)
			want(t, fmt.Sprintf("whether %v has an earlier one than %v", other, x), later < last, false)
			if later > last {
				farther++
			}
		}
	}
	want(t, "whether some have a later one", farther > 200, true)
}

// someCrash returns parts with numbers that are true, and how much their momentum changes; their masses are in hundreds of grams.
func someCrash(r *rand.Rand) ([]barrier.Part, int) {
	var l []barrier.Part
	change := 0
	for i := range between(r, 1, barrier.MaxParts) {
		mass, before, after := 100*between(r, 1, 50), between(r, -100, 100), between(r, -100, 100)
		l = append(l, part(fmt.Sprintf("p%d", i), around(r, mass, 99), around(r, before, 5), around(r, after, 5)))
		change += mass * (after - before)
	}
	return l, change
}

// around returns an interval that has a number.
func around(r *rand.Rand, x, most int) api.Interval {
	return to(x-r.IntN(most+1), x+r.IntN(most+1))
}

// measured returns a wall whose true forces have an impulse, each measured with an error.
func measured(r *rand.Rand, impulse int) []barrier.Load {
	n, times := between(r, 1, barrier.MaxLoads), between(r, 1, barrier.MaxTimes)
	force := impulse / barrier.Factor
	var l []barrier.Load
	for i := range n {
		c := barrier.Load{Name: fmt.Sprintf("c%d", i), At: api.Point{X: r.IntN(100), Y: r.IntN(100)}, Scale: barrier.MaxForce, Error: r.IntN(20)}
		for j := range times {
			x := between(r, -500, 500)
			if i == n-1 && j == times-1 {
				// The last force makes up for all others.
				x = force
			}
			force -= x
			c.Samples = append(c.Samples, x+between(r, -c.Error, c.Error))
		}
		l = append(l, c)
	}
	return l
}

func TestTrueTestsAreInBalance(t *testing.T) {
	r := dice(12)
	for range 2000 {
		parts, change := someCrash(r)
		wall := measured(r, -change)
		is, e := barrier.Balanced(parts, wall)
		wantOK(t, fmt.Sprintf("Balanced of %v and %v", parts, wall), is, e, true)
		got, e := barrier.Change(parts)
		want(t, "Change", e, api.OK)
		want(t, "whether the true change is in it", got.Low <= change && change <= got.High, true)
		impulse, e := barrier.Impulse(wall)
		want(t, "Impulse", e, api.OK)
		want(t, "whether the true impulse is in it", impulse.Low <= -change && -change <= impulse.High, true)
	}
}

func TestTrueCellExplains(t *testing.T) {
	r := dice(13)
	explained := 0
	for range 1000 {
		parts, change := someCrash(r)
		wall := measured(r, -change)
		// One cell has measured nothing at all, though its forces were within its full scale.
		i := r.IntN(len(wall))
		wall[i].Samples = make([]int, len(wall[i].Samples))
		wall[i].Error = 0
		names, e := barrier.Explaining(parts, wall)
		if e == api.ErrRule {
			continue
		}
		want(t, "Explaining", e, api.OK)
		want(t, "whether the cell explains it", slices.Contains(names, wall[i].Name), true)
		explained++
	}
	want(t, "whether there were some", explained > 100, true)
}

func TestTurnedWallsHaveTheSameImpulse(t *testing.T) {
	r := dice(14)
	for range 500 {
		_, change := someCrash(r)
		wall := measured(r, -change)
		impulse, e := barrier.Impulse(wall)
		want(t, "Impulse", e, api.OK)
		turned := slices.Clone(wall)
		for i, c := range wall {
			turned[i].At = api.Point{X: 100 - c.At.Y, Y: c.At.X}
		}
		got, e := barrier.Impulse(turned)
		wantOK(t, "Impulse of a wall that is turned", got, e, impulse)
		r.Shuffle(len(turned), func(i, j int) { turned[i], turned[j] = turned[j], turned[i] })
		got, e = barrier.Impulse(turned)
		wantOK(t, "Impulse of cells in another order", got, e, impulse)
	}
}

func TestTowsAreParsedAsTheyWerePrinted(t *testing.T) {
	r := dice(15)
	for range 500 {
		x := someTow(r)
		if r.IntN(2) == 0 {
			x = barrier.Tow{Friction: some(r, 0, barrier.MaxPull), Brake: some(r, 0, barrier.MaxPull)}
			for range between(r, 1, barrier.MaxCells) {
				x.Pull = append(x.Pull, r.IntN(barrier.MaxPull+1))
			}
			x.Wall = between(r, 1, len(x.Pull))
		}
		s, e := barrier.Print(x)
		want(t, "Print", e, api.OK)
		again, i, e := barrier.Parse(s)
		wantOK(t, "Parse", again, e, x)
		want(t, "the index of Parse", i, 0)
	}
}
