package check_test

import (
	"strings"
	"testing"

	"crumple/api"
	"crumple/check"
)

func want(t *testing.T, what string, got, wanted api.Errno) {
	t.Helper()
	if got != wanted {
		t.Errorf("%s: got %d, want %d", what, got, wanted)
	}
}

func TestFirst(t *testing.T) {
	want(t, "First of none", check.First(), api.OK)
	want(t, "First without an error", check.First(api.OK, api.OK), api.OK)
	want(t, "First", check.First(api.OK, api.ErrOrder, api.ErrForm), api.ErrOrder)
}

func TestWhen(t *testing.T) {
	want(t, "When it is wrong", check.When(true, api.ErrForm), api.ErrForm)
	want(t, "When it is right", check.When(false, api.ErrForm), api.OK)
}

func TestWithin(t *testing.T) {
	for x, e := range map[int]api.Errno{-3: api.ErrRange, -2: api.OK, 0: api.OK, 5: api.OK, 6: api.ErrRange} {
		want(t, "Within", check.Within(x, -2, 5), e)
	}
}

func TestInterval(t *testing.T) {
	for x, e := range map[api.Interval]api.Errno{
		{Low: -2, High: 5}: api.OK, {Low: 3, High: 3}: api.OK,
		{Low: -3, High: 6}: api.ErrRange, {Low: 6, High: 5}: api.ErrRange, {Low: 5, High: -3}: api.ErrRange,
		{Low: 5, High: 4}: api.ErrOrder,
	} {
		want(t, "Interval", check.Interval(x, -2, 5), e)
	}
}

func TestEach(t *testing.T) {
	known := func(e api.Errno) api.Errno { return e }
	want(t, "Each of none", check.Each(nil, known), api.OK)
	want(t, "Each without an error", check.Each([]api.Errno{api.OK}, known), api.OK)
	want(t, "Each", check.Each([]api.Errno{api.OK, api.ErrMany, api.ErrForm}, known), api.ErrMany)
}

func TestName(t *testing.T) {
	for x, e := range map[string]api.Errno{"a": api.OK, "A_9": api.OK, strings.Repeat("x", api.MaxName): api.OK, "": api.ErrName, "9": api.ErrName, "a b": api.ErrName, strings.Repeat("x", api.MaxName+1): api.ErrName} {
		want(t, "Name of "+x, check.Name(x), e)
	}
}

func TestTake(t *testing.T) {
	names := check.Names{}
	want(t, "Take of a name", names.Take("a"), api.OK)
	want(t, "Take of another name", names.Take("A"), api.OK)
	want(t, "Take of a name once more", names.Take("a"), api.ErrTwice)
	want(t, "Take of a name in another set", check.Names{}.Take("a"), api.OK)
}

func TestCount(t *testing.T) {
	for n, e := range map[int]api.Errno{0: api.ErrEmpty, 1: api.OK, 3: api.OK, 4: api.ErrMany} {
		want(t, "Count", check.Count(n, 3), e)
	}
}
