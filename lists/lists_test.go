package lists_test

import (
	"slices"
	"strconv"
	"testing"

	"crumple/lists"
)

func TestMapped(t *testing.T) {
	if got := lists.Mapped([]int{3, -1, 2}, strconv.Itoa); !slices.Equal(got, []string{"3", "-1", "2"}) {
		t.Errorf("Mapped: got %v", got)
	}
	if got := lists.Mapped(nil, strconv.Itoa); len(got) != 0 {
		t.Errorf("Mapped of none: got %v", got)
	}
}
