package lists_test

import (
	"slices"
	"strconv"
	"testing"

	"crumple/lists"
)

func TestMapped(t *testing.T) {
	if got := lists.Mapped([]int{3, -1, 2}, strconv.Itoa); !slices.Equal(got, []string{"3", "-1", "2"}) {
		t.Errorf("Mapped: got %v", got)
	}
	if got := lists.Mapped(nil, strconv.Itoa); len(got) != 0 {
		t.Errorf("Mapped of none: got %v", got)
	}
}

func TestKept(t *testing.T) {
	even := func(x int) bool { return x%2 == 0 }
	if got := lists.Kept([]int{3, -2, 2, 5}, even); !slices.Equal(got, []int{-2, 2}) {
		t.Errorf("Kept: got %v", got)
	}
	if got := lists.Kept([]int{3}, even); len(got) != 0 {
		t.Errorf("Kept of none that holds: got %v", got)
	}
}
