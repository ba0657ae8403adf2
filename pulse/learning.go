package pulse

import (
	"slices"

	"crumple/api"
	"crumple/check"
)

// wish is a sign by which a valve is moved, and the condition for it.
type wish struct {
	sign  int
	holds func(measured, wanted int) bool
}

// wishes returns the wishes; the first one whose condition holds is that of a step.
func wishes() []wish {
	return []wish{
		{1, func(measured, wanted int) bool { return measured < wanted }},
		{-1, func(measured, wanted int) bool { return measured > wanted }},
		{0, func(int, int) bool { return true }},
	}
}

// ticks returns the ticks of a corridor on which a step of a setting acts; there are none if it acts behind the corridor's end.
func (s Sled) ticks(l []Step, step, n int) api.Span {
	ticks := api.Span{From: min(l[step].From+s.Delay, n), To: n}
	if next := step + 1; next < len(l) {
		ticks.To = min(l[next].From+s.Delay, n)
	}
	return ticks
}

// sign returns the sign of the wish of some ticks.
func sign(c []api.Interval, pulse []int, ticks api.Span) int {
	measured, wanted := 0, 0
	for tick := ticks.From; tick < ticks.To; tick++ {
		measured += 2 * pulse[tick]
		wanted += c[tick].Low + c[tick].High
	}
	l := wishes()
	at := slices.IndexFunc(l, func(w wish) bool { return w.holds(measured, wanted) })
	return l[at].sign
}

// learned returns the setting that is learned from a pulse.
func (s Sled) learned(l []Step, c []api.Interval, pulse []int, step int) []Step {
	learned := slices.Clone(l)
	for i, before := range l {
		moved := before.Valve + step*sign(c, pulse, s.ticks(l, i, len(c)))
		learned[i].Valve = min(max(moved, 0), Full)
		if learned[i] != before && !s.safe(learned, len(c)) {
			learned[i] = before
		}
	}
	return learned
}

// checkLearner returns the first error of a sled, a setting and a corridor, ErrRule if the setting is not safe, or OK.
func checkLearner(s Sled, l []Step, c []api.Interval) api.Errno {
	if e := check.First(CheckSled(s), CheckSetting(l), CheckCorridor(c)); e != api.OK {
		return e
	}
	return check.When(!s.safe(l, len(c)), api.ErrRule)
}

// checkStep returns ErrRange if a step by which valves are moved is not in its range, or OK.
func checkStep(step int) api.Errno {
	return check.Within(step, 1, Full)
}

// Learned returns the setting that is learned from a pulse.
func Learned(s Sled, l []Step, c []api.Interval, pulse []int, step int) ([]Step, api.Errno) {
	if e := check.First(checkLearner(s, l, c), checkPulseFor(c, pulse), checkStep(step)); e != api.OK {
		return nil, e
	}
	return s.learned(l, c, pulse, step), api.OK
}

// Learning returns all settings of some rounds; n is the rounds and the step.
func Learning(s Sled, l []Step, c []api.Interval, gain int, n [2]int) ([][]Step, api.Errno) {
	rounds, step := n[0], n[1]
	e := check.First(
		checkLearner(s, l, c),
		s.checkGain(gain),
		check.Within(rounds, 0, MaxRounds),
		checkStep(step),
	)
	if e != api.OK {
		return nil, e
	}
	settings := [][]Step{slices.Clone(l)}
	for round := range rounds {
		last := settings[round]
		run := s.run(last, gain, len(c))
		settings = append(settings, s.learned(last, c, run, step))
	}
	return settings, api.OK
}
