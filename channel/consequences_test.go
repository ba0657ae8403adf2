package channel_test

import (
	"slices"
	"testing"

	"crumple/api"
	"crumple/channel"
	"crumple/record"
)

// P2.5 (consequences): what follows from the results, for many inputs; the dice are the same on each run.

// someName returns a name of up to most bytes.
func someName(seed uint64, most int) string {
	const letters = "ABYZabyz019_"
	r := dice(seed)
	s := []byte{letters[r.IntN(8)]}
	for range r.IntN(most) {
		s = append(s, letters[r.IntN(len(letters))])
	}
	return string(s)
}

func TestCodeWithOneByteChanged(t *testing.T) {
	r := dice(5)
	for seed := range uint64(60) {
		c := channel.Code{Place: someName(seed, 24), Axis: r.IntN(3), Sign: 2*r.IntN(2) - 1}
		s, e := channel.Coded(c)
		want(t, "Coded", e, api.OK)
		again, e := channel.Decoded(s)
		want(t, "Decoded", again, c)
		want(t, "Decoded", e, api.OK)
		for i := range len(s) {
			for b := range 256 {
				changed := []byte(s)
				changed[i] = byte(b)
				other, e := channel.Decoded(string(changed))
				// Sums whose difference is a multiple of 26 have one check letter: a and G, for example.
				if far := b - int(s[i]); far%26 != 0 || i == len(s)-1 && far != 0 {
					want(t, "whether "+string(changed)+" is decoded", e != api.OK, true)
					want(t, "what is decoded", other, channel.Code{})
				}
			}
		}
	}
}

func TestTrueNumberLiesInItsValue(t *testing.T) {
	r := dice(6)
	for range 200 {
		low := between(r, 1, 4000)
		s := sensor("s", between(r, 1, 500), low, between(r, low, min(4000, low+30)))
		l := some(r, between(r, 1, 10), 600)
		zero := between(r, 1, len(l))
		offset, e := channel.Offset(sixteenths(l...), zero)
		want(t, "Offset", e, api.OK)
		v, e := channel.Converted(s, sixteenths(l...), zero)
		want(t, "Converted", e, api.OK)
		for i, u := range l {
			if v[i].Over != (u >= s.Scale) || v[i].Under != (u <= -s.Scale) {
				t.Errorf("%v of the integer %d has wrong flags for %v", v[i], u, s)
			}
			for range 20 {
				number := (u - between(r, offset.Low, offset.High)) * between(r, s.Sense.Low, s.Sense.High)
				if number < 1000*v[i].Low || number > 1000*v[i].High {
					t.Errorf("%d thousandths do not lie in %v", number, v[i])
				}
			}
		}
	}
}

func TestConstantRecordStays(t *testing.T) {
	r := dice(7)
	for range 300 {
		u := between(r, -16384, 16384)
		l := slices.Repeat(sixteenths(u), between(r, 1, 20))
		k := someKernel(r, 100)
		for _, run := range []func([]float32, []int) ([]float32, api.Errno){channel.Passed, channel.Filtered} {
			got, e := run(l, k)
			wantSamples(t, "a constant record", got, integers(l)...)
			want(t, "a constant record", e, api.OK)
		}
	}
}

func TestReversedRecordIsFilteredReversed(t *testing.T) {
	r := dice(8)
	for range 300 {
		l := sixteenths(some(r, between(r, 1, 30), 500)...)
		k := someKernel(r, 5)
		forward, e := channel.Filtered(l, k)
		back := slices.Clone(l)
		slices.Reverse(back)
		backward, other := channel.Filtered(back, k)
		slices.Reverse(backward)
		wantSamples(t, "what is reversed", backward, integers(forward)...)
		want(t, "its error", other, e)
	}
}

func TestSymmetricalPulseStays(t *testing.T) {
	for _, k := range [][]int{{1, 2, 1}, {1, 1}, {3, 0, 1}, {5, 4, 3, 2, 1}, {7}} {
		l := make([]float32, 41)
		for i, u := range []int{100, 400, 900, 400, 100} {
			l[18+i] = sixteenths(u)[0]
		}
		got, e := channel.Filtered(l, k)
		want(t, "Filtered", e, api.OK)
		x, e := record.Extremes(got)
		want(t, "Extremes", e, api.OK)
		want(t, "where the peak is", x.At, 20)
		for i := range 21 {
			want(t, "the other side", integer(got[20+i]), integer(got[20-i]))
		}
	}
}

func TestNumbersAreFilteredWithinTheEnclosed(t *testing.T) {
	r := dice(9)
	for range 300 {
		k := someKernel(r, 5)
		var l []api.Interval
		for range between(r, 1, 15) {
			low := between(r, -300, 300)
			l = append(l, interval(low, low+between(r, 0, 50)))
		}
		enclosed, e := channel.Enclosed(l, k)
		want(t, "Enclosed", e, api.OK)
		for range 10 {
			var numbers []int
			for _, x := range l {
				numbers = append(numbers, between(r, x.Low, x.High))
			}
			filtered, e := channel.Filtered(sixteenths(numbers...), k)
			if e == api.ErrLarge {
				continue
			}
			for i, u := range integers(filtered) {
				if u < enclosed[i].Low || u > enclosed[i].High {
					t.Errorf("%d does not lie in %v", u, enclosed[i])
				}
			}
		}
	}
}

func TestWhatWasInAGapLiesInWhatIsFilled(t *testing.T) {
	r := dice(10)
	for seed := range uint64(300) {
		n, rate := between(r, 1, 40), r.IntN(600)
		truth := some(r, 1, 16384)
		for len(truth) < n {
			truth = append(truth, min(max(truth[len(truth)-1]+between(r, -rate, rate), -16384), 16384))
		}
		gaps := someGaps(t, seed, n)
		l := slices.Clone(truth)
		missing := 0
		for _, g := range gaps {
			copy(l[g.From:], some(r, g.To-g.From, 16384))
			missing += g.To - g.From
		}
		filled, e := channel.Filled(sixteenths(l...), gaps, rate)
		if missing == n {
			wantError(t, "Filled of nothing", filled, e, api.ErrEmpty)
			continue
		}
		want(t, "Filled", e, api.OK)
		for i, x := range filled {
			if truth[i] < x.Low || truth[i] > x.High {
				t.Errorf("%d does not lie in %v, at %d of %v", truth[i], x, i, gaps)
			}
		}
	}
}

func TestLastSpeedLessTheStartIsTheSum(t *testing.T) {
	r := dice(11)
	for range 200 {
		l := sixteenths(some(r, between(r, 1, 40), 16384)...)
		start := between(r, -api.MaxNumber, api.MaxNumber)
		speeds, e := channel.Speeds(l, start)
		want(t, "Speeds", e, api.OK)
		sum, e := record.Sum(l, span(0, len(l)))
		want(t, "Sum", e, api.OK)
		want(t, "the last speed less the start", speeds[len(l)-1]-start, sum)
		ways, e := channel.Ways(l, start)
		want(t, "Ways", e, api.OK)
		way := 0
		for i, v := range speeds {
			way += v
			want(t, "a way", ways[i], way)
		}
	}
}

func TestSensorsAreParsedAsTheyWerePrinted(t *testing.T) {
	r := dice(12)
	for seed := range uint64(200) {
		var l []channel.Sensor
		for i := range r.IntN(17) {
			low := between(r, 1, 4000)
			name := string(rune('a'+i)) + someName(seed+uint64(i), 23)
			l = append(l, sensor(name, between(r, 1, 16384), low, between(r, low, 4000)))
		}
		s, e := channel.Print(l)
		want(t, "Print", e, api.OK)
		again, at, e := channel.Parse(s)
		want(t, "Parse", again, l)
		want(t, "Parse", at, 0)
		want(t, "Parse", e, api.OK)
	}
}

// Arguments are not changed, and results share no memory with them or with each other: not a promise of this chapter alone.

func TestArgumentsStayAsTheyAre(t *testing.T) {
	l, k := sixteenths(1, -2, 3, 40), []int{1, 2, 3}
	intervals := []api.Interval{interval(1, 2), interval(-3, 4)}
	values := []channel.Value{under(1, 2), over(3, 4), value(5, 6)}
	gaps := []api.Span{span(0, 1), span(2, 3)}
	sensors := []channel.Sensor{sensor("b", 1600, 990, 1010), sensor("a", 1, 1, 1)}
	records := [][]float32{l, sixteenths(4, 3, 2, 1)}
	for range 2 {
		spoil(channel.Converted(sensors[0], l, 2))
		spoil(channel.Passed(l, k))
		spoil(channel.Filtered(l, k))
		spoil(channel.Passed(l, []int{1}))
		spoil(channel.Filtered(l, []int{1}))
		spoil(channel.Enclosed(intervals, k))
		spoil(channel.Enclosed(intervals, []int{1}))
		spoil(channel.Clipped(values))
		spoil(channel.Filled(l, gaps, 1000))
		spoil(channel.Turned(l, channel.Code{Place: "head", Sign: 1}))
		spoil(channel.Turned(l, channel.Code{Place: "head", Sign: -1}))
		spoil(channel.Squares(records))
		spoil(channel.Speeds(l, 1))
		spoil(channel.Ways(l, 1))
		weights, _, e := channel.Weights(k)
		spoil(weights, e)
		want(t, "the weights", weights, make([]int, 5))
		weights, _, e = channel.Weights([]int{1})
		spoil(weights, e)
		channel.Offset(l, 2)
		channel.Peak(values)
		channel.Agreement(l, records[1])
		channel.CheckKernel(k)
		channel.Print(sensors)
		wantSamples(t, "the record", l, 1, -2, 3, 40)
		wantSamples(t, "another record", records[1], 4, 3, 2, 1)
		want(t, "the kernel", k, []int{1, 2, 3})
		want(t, "the intervals", intervals, []api.Interval{interval(1, 2), interval(-3, 4)})
		want(t, "the values", values, []channel.Value{under(1, 2), over(3, 4), value(5, 6)})
		want(t, "the gaps", gaps, []api.Span{span(0, 1), span(2, 3)})
		want(t, "the sensors", sensors, []channel.Sensor{sensor("b", 1600, 990, 1010), sensor("a", 1, 1, 1)})
	}
	weights, divisor, e := channel.Weights(k)
	want(t, "Weights once more", weights, []int{3, 8, 14, 8, 3})
	want(t, "their divisor", divisor, 36)
	want(t, "Weights once more", e, api.OK)
}

// spoil overwrites a result.
func spoil[A any](l []A, e api.Errno) {
	if e == api.OK {
		clear(l)
	}
}
