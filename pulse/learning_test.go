package pulse_test

import (
	"fmt"
	"slices"
	"testing"

	"crumple/api"
	"crumple/pulse"
)

// P8.2 (corridors): what is learned, with ordinary inputs, at its limits, and with its errors in their order.

func TestLearned(t *testing.T) {
	quick := gently(100, 1, 0, 100)
	slow := gently(100, 2, 0, 36)
	for _, x := range []struct {
		s       pulse.Sled
		l       []pulse.Step
		c       []api.Interval
		pulse   []int
		step    int
		learned []pulse.Step
	}{
		{sled(), safer(), corridor(), measured(), 2, steps(0, 32, 3, 20)}, {sled(), steps(0, 32, 3, 20), corridor(), []int{16, 24, 28, 30}, 2, steps(0, 32, 3, 20)},
		// Below, above and just in the middle; the sums count, not their ticks. The middle may lie between two integers.
		{quick, steps(0, 50, 1, 50, 2, 50), intervals(20, 40, 20, 40, 20, 40), []int{29, 31, 30}, 7, steps(0, 57, 1, 43, 2, 50)}, {quick, steps(0, 50, 2, 50), intervals(20, 40, 10, 20, 0, 1, 3, 4), []int{0, 45, 2, 2}, 7, steps(0, 50, 2, 50)}, {quick, steps(0, 50), intervals(20, 41), []int{30}, 7, steps(0, 57)}, {quick, steps(0, 50), intervals(20, 41), []int{31}, 7, steps(0, 43)}, {quick, steps(0, 50), intervals(20, 41, 20, 41), []int{30, 31}, 7, steps(0, 50)},
		// No valve is below 0 or above Full.
		{quick, steps(0, 96, 1, 4, 2, 97, 3, 3), slices.Repeat(intervals(50, 50), 4), []int{0, 90, 0, 90}, 4, steps(0, 100, 1, 0, 2, 100, 3, 0)}, {quick, steps(0, 100, 1, 0), intervals(50, 50, 50, 50), []int{0, 90}, 100, steps(0, 100, 1, 0)}, {quick, steps(0, 1, 1, 99), intervals(50, 50, 50, 50), []int{0, 90}, 100, steps(0, 100, 1, 0)},
		// A move that is not safe is not made at all; what follows is moved as if it had not been tried.
		{gently(100, 1, 0, 59), steps(0, 50, 1, 49), intervals(90, 90, 90, 90), []int{0, 0}, 10, steps(0, 50, 1, 59)}, {gently(100, 1, 0, 60), steps(0, 50, 1, 49), intervals(90, 90, 90, 90), []int{0, 0}, 10, steps(0, 60, 1, 59)}, {gently(100, 1, 0, 99), steps(0, 95), intervals(90, 90), []int{0}, 10, steps(0, 95)},
		// The second move is safe alone, but not after the first one; a first move down makes room for it.
		{slow, steps(0, 40, 1, 40), intervals(90, 90, 90, 90), []int{0, 0}, 10, steps(0, 50, 1, 40)}, {slow, steps(0, 40, 1, 40), intervals(20, 20, 90, 90), []int{20, 0}, 10, steps(0, 40, 1, 50)}, {slow, steps(0, 40, 1, 48), intervals(0, 0, 90, 90), []int{1, 0}, 10, steps(0, 30, 1, 58)}, {slow, steps(0, 40, 1, 49), intervals(0, 0, 90, 90), []int{1, 0}, 10, steps(0, 30, 1, 49)}, {slow, steps(0, 40, 1, 48), intervals(20, 20, 90, 90), []int{20, 0}, 10, steps(0, 40, 1, 48)},
		// It is the greatest gain that must be safe, at all ticks of the corridor, and at these alone.
		{pulse.Sled{Gain: to(1, 200), Lag: 1, Load: 100}, steps(0, 49), intervals(90, 90), []int{0}, 1, steps(0, 50)}, {pulse.Sled{Gain: to(1, 200), Lag: 1, Load: 100}, steps(0, 50), intervals(90, 90), []int{0}, 1, steps(0, 50)}, {gently(100, 1, 0, 50), steps(0, 40, 2, 99), intervals(90, 90, 90, 90), []int{0, 0}, 10, steps(0, 50, 2, 99)},
		// Steps that begin at the corridor's end, behind it, or before it, but without a tick for the delay.
		{quick, steps(0, 10, 2, 10), intervals(90, 90, 90, 90), []int{0, 0}, 5, steps(0, 15, 2, 10)}, {quick, steps(0, 10, 1, 10, 64, 10), intervals(90, 90, 90, 90), []int{0, 0}, 5, steps(0, 15, 1, 15, 64, 10)}, {gently(100, 1, 1, 100), steps(0, 10, 1, 10), intervals(90, 90, 90, 90), []int{0, 0}, 5, steps(0, 15, 1, 10)}, {gently(100, 1, 2, 100), steps(0, 10, 1, 10), intervals(90, 90, 90, 90), []int{0, 0}, 5, steps(0, 10, 1, 10)}, {gently(100, 1, 8, 100), steps(0, 10), intervals(90, 90), []int{0}, 5, steps(0, 10)},
		// The ticks before the delay count for no step.
		{gently(100, 1, 1, 100), steps(0, 10, 2, 10), slices.Repeat(intervals(50, 50), 5), []int{99, 49, 50, 51, 50}, 5, steps(0, 15, 2, 5)}, {gently(100, 1, 3, 100), steps(0, 10), slices.Repeat(intervals(50, 50), 5), []int{99, 99, 99, 49, 50}, 5, steps(0, 15)},
		{quick, steps(0, 10), intervals(90, 90), []int{-pulse.MaxPulse}, 1, steps(0, 11)}, {quick, steps(0, 10), intervals(90, 90), []int{pulse.MaxPulse}, 1, steps(0, 9)},
	} {
		learned, e := pulse.Learned(x.s, x.l, x.c, x.pulse, x.step)
		wantOK(t, fmt.Sprintf("Learned of %v with %v in %v from %v by %d", x.s, x.l, x.c, x.pulse, x.step), learned, e, x.learned)
	}
}

func TestLearning(t *testing.T) {
	quick := gently(100, 1, 0, 100)
	for _, x := range []struct {
		s        pulse.Sled
		l        []pulse.Step
		c        []api.Interval
		gain     int
		n        [2]int
		settings [][]pulse.Step
	}{
		{sled(), safer(), corridor(), 100, [2]int{0, 2}, [][]pulse.Step{safer()}}, {sled(), safer(), corridor(), 100, [2]int{1, 2}, [][]pulse.Step{safer(), steps(0, 32, 3, 20)}}, {sled(), safer(), corridor(), 100, [2]int{3, 2}, [][]pulse.Step{safer(), steps(0, 32, 3, 20), steps(0, 32, 3, 20), steps(0, 32, 3, 20)}}, {sled(), safer(), corridor(), 100, [2]int{1, 100}, [][]pulse.Step{safer(), safer()}},
		// By the greatest gain the run is above the corridor.
		{sled(), safer(), corridor(), 200, [2]int{2, 6}, [][]pulse.Step{safer(), steps(0, 24, 3, 20), steps(0, 18, 3, 20)}},
		{quick, steps(0, 40), intervals(50, 50), 100, [2]int{8, 4}, [][]pulse.Step{steps(0, 40), steps(0, 44), steps(0, 48), steps(0, 52), steps(0, 48), steps(0, 52), steps(0, 48), steps(0, 52), steps(0, 48)}}, {quick, steps(0, 40, 1, 60), intervals(50, 50, 50, 50), 100, [2]int{3, 5}, [][]pulse.Step{steps(0, 40, 1, 60), steps(0, 45, 1, 55), steps(0, 50, 1, 50), steps(0, 50, 1, 50)}},
	} {
		settings, e := pulse.Learning(x.s, x.l, x.c, x.gain, x.n)
		wantOK(t, fmt.Sprintf("Learning of %v with %v in %v by %d with %v", x.s, x.l, x.c, x.gain, x.n), settings, e, x.settings)
	}
}

// wantLearnErrors checks the error that both functions return.
func wantLearnErrors(t *testing.T, what string, s pulse.Sled, l []pulse.Step, c []api.Interval, wanted api.Errno) {
	t.Helper()
	learned, e := pulse.Learned(s, l, c, measured(), 1)
	wantError(t, "Learned of "+what, learned, e, wanted)
	settings, e := pulse.Learning(s, l, c, 150, [2]int{1, 1})
	wantError(t, "Learning of "+what, settings, e, wanted)
	// All arguments that follow are wrong, too.
	learned, e = pulse.Learned(s, l, c, far, 0)
	wantError(t, "Learned of "+what, learned, e, wanted)
	settings, e = pulse.Learning(s, l, c, 0, [2]int{-1, 0})
	wantError(t, "Learning of "+what, settings, e, wanted)
}

func TestErrorsOfLearners(t *testing.T) {
	for _, b := range badSleds() {
		what := fmt.Sprint(b.x)
		wantLearnErrors(t, what, b.x, safer(), corridor(), b.e)
		wantLearnErrors(t, what, b.x, nil, nil, b.e)
		wantLearnErrors(t, what, b.x, setting(), corridor(), b.e)
	}
	for _, b := range badSettings() {
		what := fmt.Sprintf("%.99v", b.x)
		wantLearnErrors(t, what, sled(), b.x, corridor(), b.e)
		wantLearnErrors(t, what, sled(), b.x, intervals(1, 0), b.e)
	}
	for _, b := range badCorridors() {
		what := fmt.Sprintf("%.99v", b.x)
		wantLearnErrors(t, what, sled(), safer(), b.x, b.e)
		// This setting is safe over no ticks of the corridor.
		wantLearnErrors(t, what, sled(), steps(0, 100), b.x, b.e)
	}
	wantLearnErrors(t, "a setting that is not safe", sled(), setting(), corridor(), api.ErrRule)
	wantLearnErrors(t, "a setting that is not safe over 3 ticks", sled(), setting(), corridor()[1:], api.ErrRule)
	wantLearnErrors(t, "a setting that is not safe at one tick", gently(100, 1, 0, 98), steps(0, 0, 3, 99, 4, 0), slices.Repeat(intervals(20, 40), 9), api.ErrRule)
	learned, e := pulse.Learned(sled(), setting(), corridor()[2:], []int{60, 60}, 5)
	wantOK(t, "Learned of a setting that is safe over 2 ticks", learned, e, steps(0, 35, 3, 20))
}

func TestErrorsOfLearned(t *testing.T) {
	for _, b := range badPulsesFor() {
		for _, step := range []int{1, 0} {
			learned, e := pulse.Learned(sled(), safer(), corridor(), b.x, step)
			wantError(t, fmt.Sprintf("Learned from %.99v", b.x), learned, e, b.e)
			learned, e = pulse.Learned(sled(), setting(), corridor(), b.x, step)
			wantError(t, fmt.Sprintf("Learned of a setting that is not safe from %.99v", b.x), learned, e, api.ErrRule)
		}
	}
	for _, step := range outside(1, pulse.Full) {
		learned, e := pulse.Learned(sled(), safer(), corridor(), measured(), step)
		wantError(t, fmt.Sprintf("Learned by %d", step), learned, e, api.ErrRange)
	}
	for _, step := range []int{1, pulse.Full} {
		_, e := pulse.Learned(sled(), safer(), corridor(), measured(), step)
		want(t, fmt.Sprintf("Learned by %d", step), e, api.OK)
	}
}

func TestErrorsOfLearning(t *testing.T) {
	wantRange := func(gain int, n [2]int) {
		t.Helper()
		settings, e := pulse.Learning(sled(), safer(), corridor(), gain, n)
		wantError(t, fmt.Sprintf("Learning by %d with %v", gain, n), settings, e, api.ErrRange)
	}
	for _, gain := range outside(100, 200) {
		wantRange(gain, [2]int{2, 2})
	}
	for _, rounds := range outside(0, pulse.MaxRounds) {
		wantRange(150, [2]int{rounds, 2})
	}
	for _, step := range outside(1, pulse.Full) {
		wantRange(150, [2]int{2, step})
		wantRange(150, [2]int{0, step})
	}
	for _, n := range [][2]int{{0, 1}, {pulse.MaxRounds, pulse.Full}} {
		for _, gain := range []int{100, 200} {
			settings, e := pulse.Learning(sled(), safer(), corridor(), gain, n)
			wantOK(t, fmt.Sprintf("the number of settings by %d with %v", gain, n), len(settings), e, n[0]+1)
		}
	}
}

func TestLearningByTheDefinition(t *testing.T) {
	r := dice(3)
	moved, held, refused := 0, 0, 0
	for range 3000 {
		n := someTicks(r)
		s, l := someSled(r), someSetting(r, n)
		c, measured := someCorridor(r, n, min(pulse.MaxLoad, s.Gain.High))
		step, gain := between(r, 1, one(r, []int{3, 20, pulse.Full})), between(r, s.Gain.Low, s.Gain.High)
		what := fmt.Sprintf(" of %v with %v in %v from %v by %d", s, l, c, measured, step)
		learned, e := pulse.Learned(s, l, c, measured, step)
		if !slowSafe(s, l, n) {
			wantError(t, "Learned"+what, learned, e, api.ErrRule)
			refused++
			continue
		}
		wantOK(t, "Learned"+what, learned, e, slowLearned(s, l, c, measured, step))
		if slices.Equal(l, learned) {
			held++
		} else {
			moved++
		}
		rounds := between(r, 0, pulse.MaxRounds)
		wanted := [][]pulse.Step{l}
		for i := range rounds {
			wanted = append(wanted, slowLearned(s, wanted[i], c, slowRun(s, wanted[i], gain, n), step))
		}
		settings, e := pulse.Learning(s, l, c, gain, [2]int{rounds, step})
		wantOK(t, fmt.Sprintf("Learning%s, by the gain %d in %d rounds", what, gain, rounds), settings, e, wanted)
	}
	want(t, "whether many settings are moved, many are kept, and many are not safe", min(moved, held, refused) > 300, true)
}
