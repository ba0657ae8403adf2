package check_test

import (
	"testing"

	"crumple/api"
	"crumple/check"
)

func want(t *testing.T, what string, got, wanted api.Errno) {
	t.Helper()
	if got != wanted {
		t.Errorf("%s: got %d, want %d", what, got, wanted)
	}
}

func TestFirst(t *testing.T) {
	want(t, "First of none", check.First(), api.OK)
	want(t, "First without an error", check.First(api.OK, api.OK), api.OK)
	want(t, "First", check.First(api.OK, api.ErrOrder, api.ErrForm), api.ErrOrder)
}

func TestWhen(t *testing.T) {
	want(t, "When it is wrong", check.When(true, api.ErrForm), api.ErrForm)
	want(t, "When it is right", check.When(false, api.ErrForm), api.OK)
}

func TestWithin(t *testing.T) {
	for x, e := range map[int]api.Errno{-3: api.ErrRange, -2: api.OK, 0: api.OK, 5: api.OK, 6: api.ErrRange} {
		want(t, "Within", check.Within(x, -2, 5), e)
	}
}

func TestInterval(t *testing.T) {
	for x, e := range map[api.Interval]api.Errno{
		{Low: -2, High: 5}: api.OK, {Low: 3, High: 3}: api.OK,
		{Low: -3, High: 6}: api.ErrRange, {Low: 6, High: 5}: api.ErrRange, {Low: 5, High: -3}: api.ErrRange,
		{Low: 5, High: 4}: api.ErrOrder,
	} {
		want(t, "Interval", check.Interval(x, -2, 5), e)
	}
}

func TestEach(t *testing.T) {
	known := func(e api.Errno) api.Errno { return e }
	want(t, "Each of none", check.Each(nil, known), api.OK)
	want(t, "Each without an error", check.Each([]api.Errno{api.OK}, known), api.OK)
	want(t, "Each", check.Each([]api.Errno{api.OK, api.ErrMany, api.ErrForm}, known), api.ErrMany)
}
