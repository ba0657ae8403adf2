package garage_test

import (
	"fmt"
	"testing"

	"crumple/api"
	"crumple/garage"
)

// P9.1 (halls and acts): halls and waits, with ordinary inputs, at their limits, and with their errors in their order; acts_test.go has the acts.

func TestCheckHall(t *testing.T) {
	for _, h := range []garage.Hall{
		hall(), greatest(), noWaits(), {Doors: 1, Base: garage.MaxWait, Tables: tables(table(0, garage.MaxWait), table(0, 7, 1, 7), table(0, 0, 1, 0, 2, 1, garage.MaxMeasure, 1))},
	} {
		want(t, fmt.Sprintf("CheckHall of %v", h), garage.CheckHall(h), api.OK)
	}
	for _, b := range badHalls() {
		want(t, "CheckHall of "+short(b.x), garage.CheckHall(b.x), b.e)
	}
}

func TestWait(t *testing.T) {
	for _, x := range []struct {
		h      garage.Hall
		values [3]int
		wait   int
	}{
		{hall(), [3]int{49, 80, 7}, 20}, {hall(), [3]int{50, 80, 7}, 30}, {hall(), [3]int{0, 0, 0}, 5}, {hall(), [3]int{49, 79, 0}, 5}, {hall(), [3]int{51, 0, 0}, 30}, {hall(), [3]int{0, 81, 0}, 20}, {hall(), [3]int{0, 0, garage.MaxMeasure}, 5}, {hall(), [3]int{garage.MaxMeasure, garage.MaxMeasure, garage.MaxMeasure}, 30}, {noWaits(), [3]int{9, 9, 9}, 0},
		// The steps begin at 0, 3, 6, .., 18 and MaxMeasure, with the waits 0, 2, 4, .., 12 and MaxWait.
		{greatest(), [3]int{0, 0, 0}, 0}, {greatest(), [3]int{2, 0, 0}, 0}, {greatest(), [3]int{3, 0, 0}, 2}, {greatest(), [3]int{3, 8, 5}, 4}, {greatest(), [3]int{3, 8, 9}, 6}, {greatest(), [3]int{18, 0, 0}, 12}, {greatest(), [3]int{0, garage.MaxMeasure - 1, 0}, 12}, {greatest(), [3]int{0, garage.MaxMeasure, 0}, garage.MaxWait}, {greatest(), [3]int{0, 0, garage.MaxMeasure}, garage.MaxWait},
		{garage.Hall{Doors: 1, Tables: tables(table(0, 9), table(0, 4), table(0, 8))}, [3]int{}, 9}, {garage.Hall{Doors: 1, Tables: tables(table(0, 1), table(0, 4), table(0, 3))}, [3]int{}, 4}, {garage.Hall{Doors: 1, Base: 99, Tables: tables(table(0, 1), table(0, 4), table(0, 6))}, [3]int{}, 6},
	} {
		wait, e := garage.Wait(x.h, x.values)
		wantOK(t, fmt.Sprintf("Wait of %v after %v", x.h, x.values), wait, e, x.wait)
	}
}

func TestErrorsOfWait(t *testing.T) {
	for _, b := range badHalls() {
		for _, values := range [][3]int{{1, 2, 3}, {-1, 2, 3}, {1, 2, far[4]}} {
			wait, e := garage.Wait(b.x, values)
			wantError(t, fmt.Sprintf("Wait of %s after %v", short(b.x), values), wait, e, b.e)
		}
	}
	for _, values := range badValues() {
		wait, e := garage.Wait(hall(), values)
		wantError(t, fmt.Sprintf("Wait after %v", values), wait, e, api.ErrRange)
	}
}

func TestWaitsByTheDefinition(t *testing.T) {
	r := dice(1)
	for range 5000 {
		h, most := someHall(r), one(r, []int{3, 30, garage.MaxMeasure})
		values := [3]int{between(r, 0, most), between(r, 0, most), between(r, 0, most)}
		wait, e := garage.Wait(h, values)
		wantOK(t, fmt.Sprintf("Wait of %v after %v", h, values), wait, e, slowWait(h, values))
	}
}
