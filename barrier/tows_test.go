package barrier_test

import (
	"fmt"
	"slices"
	"testing"

	"crumple/api"
	"crumple/barrier"
)

// P4.2 (the tow): each function with ordinary inputs, at its limits, and with its errors in their order.

// intervals returns intervals by their ends.
func intervals(ends ...int) []api.Interval {
	var l []api.Interval
	for pair := range slices.Chunk(ends, 2) {
		l = append(l, to(pair[0], pair[1]))
	}
	return l
}

func TestRun(t *testing.T) {
	slow := barrier.Tow{Pull: []int{3, 0, 0, 7, 2}, Friction: to(0, 9), Wall: 1}
	for _, x := range []struct {
		t        barrier.Tow
		friction int
		run      []int
	}{
		{track(), 2, []int{0, 8, 16, 24, 22, 20, 18}}, {track(), 1, []int{0, 9, 18, 27, 26, 25, 24}},
		{slow, 0, []int{0, 3, 3, 3, 10, 12}}, {slow, 2, []int{0, 1, 0, 0, 5, 5}}, {slow, 3, []int{0, 0, 0, 0, 4, 3}}, {slow, 5, []int{0, 0, 0, 0, 2, 0}}, {slow, 9, []int{0, 0, 0, 0, 0, 0}},
	} {
		run, e := barrier.Run(x.t, x.friction)
		wantOK(t, fmt.Sprintf("Run of %v with %d", x.t, x.friction), run, e, x.run)
	}
	run, e := barrier.Run(longTrack(), 0)
	want(t, "Run of the longest track", e, api.OK)
	want(t, "its number of cells", len(run), barrier.MaxCells+1)
	want(t, "its last squared speed", run[barrier.MaxCells], 6400000)
	run, e = barrier.Run(longTrack(), barrier.MaxPull)
	wantOK(t, "Run with the greatest friction", run, e, make([]int, barrier.MaxCells+1))
}

func TestReached(t *testing.T) {
	reached, e := barrier.Reached(track())
	wantOK(t, "Reached", reached, e, intervals(0, 0, 8, 9, 16, 18, 24, 27, 22, 26, 20, 25, 18, 24))
	reached, e = barrier.Reached(barrier.Tow{Pull: []int{4, 1}, Friction: to(2, 5), Wall: 1})
	wantOK(t, "Reached, or not", reached, e, intervals(0, 0, 0, 2, 0, 1))
}

func TestBraked(t *testing.T) {
	free := barrier.Tow{Pull: []int{0, 5, 0}, Brake: to(0, 9), Wall: 3}
	for _, x := range []struct {
		t                           barrier.Tow
		cell, friction, brake, stop int
	}{
		{track(), 2, 1, 6, 5}, {track(), 3, 1, 6, 7}, {track(), 2, 2, 6, 4},
		{track(), 0, 1, 6, 0}, {track(), 1, 1, 8, 2}, {track(), 1, 2, 6, 2}, {track(), 1, 1, 6, 3}, {track(), 6, 1, 6, 10}, {track(), 6, 2, 8, 8}, {track(), 6, 2, 7, 8}, {track(), 5, 1, 8, 8},
		// A car that stands is where it stops, without friction and brake, too.
		{free, 0, 0, 0, 0}, {free, 1, 0, 0, 1}, {free, 1, 0, 9, 1}, {free, 2, 0, 5, 3}, {free, 2, 0, 4, 4}, {free, 3, 0, 1, 8}, {free, 3, 0, 9, 4},
		{longTrack(), 64, 0, 1, 6400064}, {longTrack(), 64, 0, 100000, 128}, {longTrack(), 64, 100000, 0, 64}, {longTrack(), 1, 1, 0, 100000}, {longTrack(), 1, 1, 1, 50001}, {longTrack(), 64, 99999, 0, 65},
	} {
		stop, e := barrier.Braked(x.t, x.cell, x.friction, x.brake)
		wantOK(t, fmt.Sprintf("Braked of %v from %d with %d and %d", x.t, x.cell, x.friction, x.brake), stop, e, x.stop)
	}
	for cell := 2; cell <= 3; cell++ {
		stop, e := barrier.Braked(free, cell, 0, 0)
		wantError(t, "Braked without friction and brake", stop, e, api.ErrNone)
	}
}

func TestSafeAndLast(t *testing.T) {
	for _, x := range []struct {
		t    barrier.Tow
		safe string
		last int
	}{
		{track(), "+++----", 2},
		// Friction alone stops the car just at the wall, before it, or behind it.
		{barrier.Tow{Pull: []int{9, 0, 0, 0}, Friction: to(3, 3), Wall: 3}, "++++", 3},
		{barrier.Tow{Pull: []int{6, 0, 0, 5}, Friction: to(2, 2), Wall: 3}, "++++", 3},
		{barrier.Tow{Pull: []int{20, 0, 0, 20}, Friction: to(7, 9), Brake: to(0, 5), Wall: 3}, "++++", 3},
		{barrier.Tow{Pull: []int{6, 0, 0, 0}, Friction: to(2, 2), Wall: 4}, "+++++", 4},
		{barrier.Tow{Pull: []int{6, 0, 0, 5}, Friction: to(2, 2), Wall: 2}, "+--", 0},
		{barrier.Tow{Pull: []int{6, 0, 0, 5}, Friction: to(2, 2), Wall: 4}, "++++-", 3},
		{barrier.Tow{Pull: []int{9, 9, 0, 0, 0}, Friction: to(4, 4), Brake: to(0, 9), Wall: 3}, "++--", 1},
		{barrier.Tow{Pull: []int{13, 9, 0, 0, 0}, Friction: to(4, 4), Brake: to(0, 9), Wall: 3}, "+---", 0},
		{barrier.Tow{Pull: []int{13, 9, 0, 0, 0}, Friction: to(4, 4), Brake: to(1, 9), Wall: 3}, "++--", 1},
		{barrier.Tow{Pull: []int{13, 9, 0, 0, 0}, Friction: to(3, 5), Brake: to(2, 9), Wall: 3}, "++--", 1},
		// The least friction counts, also if there is none.
		{barrier.Tow{Pull: []int{8, 8, 0}, Friction: to(0, 5), Brake: to(0, 5), Wall: 3}, "+---", 0},
		{barrier.Tow{Pull: []int{0, 0, 8}, Friction: to(0, 5), Brake: to(0, 5), Wall: 3}, "+++-", 2},
		// Without friction and brake the wall may be anywhere, and what is behind it does not matter.
		{barrier.Tow{Pull: []int{0, 0, 8}, Friction: to(0, 5), Brake: to(0, 5), Wall: 2}, "+++", 2}, {barrier.Tow{Pull: []int{0, 0, 0}, Wall: 1}, "++", 1},
		{longTrack(), "+" + string(slices.Repeat([]byte("-"), 64)), 0},
	} {
		for cell, c := range x.safe {
			safe, e := barrier.Safe(x.t, cell)
			wantOK(t, fmt.Sprintf("Safe of %v at %d", x.t, cell), safe, e, c == '+')
		}
		last, e := barrier.Last(x.t)
		wantOK(t, fmt.Sprintf("Last of %v", x.t), last, e, x.last)
	}
}

func TestTable(t *testing.T) {
	for _, x := range []struct {
		t     barrier.Tow
		table []int
	}{
		{track(), []int{0, 9, 18, 27, 26, 25, 24}},
		{barrier.Tow{Pull: []int{10, 10, 10, 0, 0, 0}, Friction: to(1, 2), Brake: to(6, 8), Wall: 2}, []int{0, 9, 18}},
		{barrier.Tow{Pull: []int{3, 0, 0, 7, 2}, Friction: to(2, 3), Wall: 4}, []int{0, 1, 0, 0, 5}},
	} {
		table, e := barrier.Table(x.t)
		wantOK(t, fmt.Sprintf("Table of %v", x.t), table, e, x.table)
	}
}

func TestCheckTable(t *testing.T) {
	for _, x := range []struct {
		table []int
		last  int
	}{
		{[]int{0, 9, 18, 27, 26, 25, 24}, 2}, {[]int{1, 10, 19, 28, 27, 26, 25}, 2}, {[]int{0, 9, 18, 30, 29, 28, 27}, 2}, {[]int{0, 9, 18, barrier.MaxTable, barrier.MaxTable, barrier.MaxTable, barrier.MaxTable}, 2},
		// The bounds are 42, 35, 28, 21, 14, 7 and 0.
		{[]int{0, 9, 28, 37, 36, 35, 34}, 2}, {[]int{0, 9, 29, 38, 37, 36, 35}, 1}, {[]int{0, 20, 29, 38, 37, 36, 35}, 1}, {[]int{26, 35, 44, 53, 52, 51, 50}, 1}, {[]int{26, 36, 45, 54, 53, 52, 51}, 0}, {[]int{42, 51, 60, 69, 68, 67, 66}, 0}, {[]int{43, 52, 61, 70, 69, 68, 67}, -1},
		// One integer is too small, also one beyond the cell: then nothing is proved.
		{[]int{1, 9, 18, 27, 26, 25, 24}, -1}, {[]int{0, 8, 18, 27, 26, 25, 24}, -1}, {[]int{0, 9, 17, 27, 26, 25, 24}, -1}, {[]int{0, 9, 18, 26, 26, 25, 24}, -1}, {[]int{0, 9, 18, 27, 26, 24, 24}, -1}, {[]int{0, 9, 18, 27, 26, 25, 23}, -1}, {[]int{0, 0, 0, 0, 0, 0, 0}, -1},
	} {
		for cell := range 7 {
			wanted := api.OK
			if cell > x.last {
				wanted = api.ErrProof
			}
			want(t, fmt.Sprintf("CheckTable of %v at %d", x.table, cell), barrier.CheckTable(track(), x.table, cell), wanted)
		}
	}
	// What is behind the wall does not matter, and a car that stands proves the wall itself.
	x := barrier.Tow{Pull: []int{0, 0, 9, 9}, Friction: to(1, 2), Brake: to(3, 3), Wall: 2}
	want(t, "CheckTable at the wall", barrier.CheckTable(x, []int{0, 0, 0}, 2), api.OK)
	want(t, "CheckTable at the wall with a greater table", barrier.CheckTable(x, []int{5, 4, 3}, 2), api.ErrProof)
	want(t, "CheckTable before the wall with a greater table", barrier.CheckTable(x, []int{5, 4, 3}, 1), api.OK)
}

// wantTowErrors checks the error that all functions of a tow return.
func wantTowErrors(t *testing.T, x barrier.Tow, wanted api.Errno) {
	t.Helper()
	what := fmt.Sprintf(" of %v", x)
	want(t, "CheckTow"+what, barrier.CheckTow(x), wanted)
	run, e := barrier.Run(x, -1)
	wantError(t, "Run"+what, run, e, wanted)
	reached, e := barrier.Reached(x)
	wantError(t, "Reached"+what, reached, e, wanted)
	stop, e := barrier.Braked(x, -1, -1, -1)
	wantError(t, "Braked"+what, stop, e, wanted)
	safe, e := barrier.Safe(x, -1)
	wantError(t, "Safe"+what, safe, e, wanted)
	last, e := barrier.Last(x)
	wantError(t, "Last"+what, last, e, wanted)
	table, e := barrier.Table(x)
	wantError(t, "Table"+what, table, e, wanted)
	want(t, "CheckTable"+what, barrier.CheckTable(x, nil, -1), wanted)
	s, e := barrier.Print(x)
	wantError(t, "Print"+what, s, e, wanted)
}

func TestTowErrors(t *testing.T) {
	for _, b := range badTows() {
		wantTowErrors(t, b.x, b.e)
	}
	want(t, "CheckTow", barrier.CheckTow(track()), api.OK)
	want(t, "CheckTow of the longest track", barrier.CheckTow(longTrack()), api.OK)
	want(t, "CheckTow of one cell", barrier.CheckTow(barrier.Tow{Pull: []int{0}, Friction: to(barrier.MaxPull, barrier.MaxPull), Brake: to(barrier.MaxPull, barrier.MaxPull), Wall: 1}), api.OK)
}

func TestErrorsOfCellsAndFrictions(t *testing.T) {
	x := track()
	x.Wall = 4
	for _, friction := range outside(1, 2) {
		run, e := barrier.Run(x, friction)
		wantError(t, fmt.Sprintf("Run with %d", friction), run, e, api.ErrRange)
		stop, e := barrier.Braked(x, 0, friction, 6)
		wantError(t, fmt.Sprintf("Braked with the friction %d", friction), stop, e, api.ErrRange)
	}
	for _, brake := range outside(6, 8) {
		stop, e := barrier.Braked(x, 4, 2, brake)
		wantError(t, fmt.Sprintf("Braked with the brake %d", brake), stop, e, api.ErrRange)
	}
	for _, cell := range append([]int{6}, outside(0, 4)...) {
		stop, e := barrier.Braked(x, cell, 0, 0)
		wantError(t, fmt.Sprintf("Braked from %d", cell), stop, e, api.ErrUnknown)
		safe, e := barrier.Safe(x, cell)
		wantError(t, fmt.Sprintf("Safe at %d", cell), safe, e, api.ErrUnknown)
		want(t, fmt.Sprintf("CheckTable at %d", cell), barrier.CheckTable(x, []int{1, 0, 0, 0, 0}, cell), api.ErrUnknown)
	}
}

func TestTableErrors(t *testing.T) {
	x := track()
	x.Wall = 2
	for _, l := range [][]int{nil, {}, {0, 9}, {0, 9, 18, 27}, {-1, -1}, {0, 9, 18, 27, 26, 25, 24}, make([]int, 1000)} {
		want(t, fmt.Sprintf("CheckTable of %v", l), barrier.CheckTable(x, l, -1), api.ErrShape)
	}
	for _, n := range outside(0, barrier.MaxTable) {
		for i := range 3 {
			l := []int{0, 0, 0}
			l[i] = n
			want(t, fmt.Sprintf("CheckTable of %v", l), barrier.CheckTable(x, l, -1), api.ErrRange)
		}
	}
	want(t, "CheckTable of the greatest integers", barrier.CheckTable(x, slices.Repeat([]int{barrier.MaxTable}, 3), 3), api.ErrUnknown)
}

// stop counts the cells until a car stands that is braked with both together; it is -1 if it never does.
func stop(square, cell, both int) int {
	for at := cell; ; at++ {
		if square <= 0 {
			return at
		}
		if both == 0 {
			return -1
		}
		square -= both
	}
}

// isSafe tries all frictions and brakes.
func isSafe(t *testing.T, x barrier.Tow, cell int) bool {
	t.Helper()
	for friction := x.Friction.Low; friction <= x.Friction.High; friction++ {
		run, e := barrier.Run(x, friction)
		want(t, "Run", e, api.OK)
		for brake := x.Brake.Low; brake <= x.Brake.High; brake++ {
			at, e := barrier.Braked(x, cell, friction, brake)
			wanted := stop(run[cell], cell, friction+brake)
			if wanted < 0 {
				wantError(t, "Braked", at, e, api.ErrNone)
				return false
			}
			wantOK(t, "Braked", at, e, wanted)
			if at > x.Wall {
				return false
			}
		}
	}
	return true
}

func TestTowsByTheirDefinitions(t *testing.T) {
	r := dice(2)
	counts := map[bool]int{}
	for range 1500 {
		x := someTow(r)
		var up []bool
		for cell := range x.Wall + 1 {
			wanted := isSafe(t, x, cell)
			safe, e := barrier.Safe(x, cell)
			wantOK(t, fmt.Sprintf("Safe of %v at %d", x, cell), safe, e, wanted)
			counts[safe]++
			up = append(up, wanted)
		}
		wanted := x.Wall
		if i := slices.Index(up, false); i >= 0 {
			wanted = i - 1
		}
		last, e := barrier.Last(x)
		wantOK(t, fmt.Sprintf("Last of %v", x), last, e, wanted)
	}
	want(t, "whether cells of both kinds were there", counts[true] > 500 && counts[false] > 500, true)
}

func TestTheLeastTable(t *testing.T) {
	r := dice(3)
	for range 300 {
		x := someTow(r)
		table, e := barrier.Table(x)
		want(t, "Table", e, api.OK)
		want(t, "CheckTable of the table of a tow", barrier.CheckTable(x, table, 0), api.OK)
		for i, n := range table {
			if n == 0 {
				continue
			}
			less := slices.Clone(table)
			less[i]--
			want(t, "CheckTable of a lesser table", barrier.CheckTable(x, less, 0), api.ErrProof)
		}
	}
}
