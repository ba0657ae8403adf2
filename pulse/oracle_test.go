package pulse_test

import (
	"math/big"
	"slices"

	"crumple/api"
	"crumple/pulse"
)

// A second reading of the chapter's definitions, word by word and slowly; quotients are rational numbers.

// slowDown returns a rational number, rounded down.
func slowDown(x *big.Rat) int {
	floor := new(big.Int).Quo(x.Num(), x.Denom())
	if new(big.Rat).SetInt(floor).Cmp(x) > 0 {
		floor.Sub(floor, big.NewInt(1))
	}
	return int(floor.Int64())
}

// by returns a quotient as a rational number.
func by(a, b int) *big.Rat { return big.NewRat(int64(a), int64(b)) }

// slowStep returns the index of the last step whose From is at most a tick.
func slowStep(l []pulse.Step, tick int) int {
	last := -1
	for i, s := range l {
		if s.From <= tick {
			last = i
		}
	}
	return last
}

// slowValves returns the valves at some ticks.
func slowValves(l []pulse.Step, n int) []int {
	var valves []int
	for tick := range n {
		valves = append(valves, l[slowStep(l, tick)].Valve)
	}
	return valves
}

// slowRun returns the run of a setting by a gain.
func slowRun(s pulse.Sled, l []pulse.Step, gain, n int) []int {
	a := []int{0}
	for t := range n {
		from := t - s.Delay
		if from < 0 {
			from = 0
		}
		wish := slowDown(by(gain*l[slowStep(l, from)].Valve, pulse.Full))
		a = append(a, a[t]+slowDown(by(wish-a[t], s.Lag)))
	}
	return a[1:]
}

// slowEnclosed returns the enclosure of a setting.
func slowEnclosed(s pulse.Sled, l []pulse.Step, n int) []api.Interval {
	var enclosed []api.Interval
	least, greatest := slowRun(s, l, s.Gain.Low, n), slowRun(s, l, s.Gain.High, n)
	for t := range n {
		enclosed = append(enclosed, to(least[t], greatest[t]))
	}
	return enclosed
}

// slowSafe reports whether a setting is safe.
func slowSafe(s pulse.Sled, l []pulse.Step, n int) bool {
	safe := true
	for _, x := range slowEnclosed(s, l, n) {
		safe = safe && x.High <= s.Load
	}
	return safe
}

// slowExcess returns the excess of a pulse, and its tick.
func slowExcess(c []api.Interval, l []int) (int, int) {
	excess, at := 0, 0
	for t, a := range l {
		if a-c[t].High > excess {
			excess, at = a-c[t].High, t
		}
		if c[t].Low-a > excess {
			excess, at = c[t].Low-a, t
		}
	}
	return excess, at
}

// slowSpeeds returns the speeds of a pulse.
func slowSpeeds(l []int) []int {
	var speeds []int
	for t := range l {
		sum := 0
		for _, a := range l[:t+1] {
			sum += a
		}
		speeds = append(speeds, sum)
	}
	return speeds
}

// slowWishes returns the wishes of all steps: each tick belongs to the step whose valve it had, less the delay.
func slowWishes(s pulse.Sled, l []pulse.Step, c []api.Interval, measured []int) []int {
	missing := make([]int, len(l))
	for t, a := range measured {
		if t >= s.Delay {
			missing[slowStep(l, t-s.Delay)] += c[t].Low + c[t].High - 2*a
		}
	}
	for i, sum := range missing {
		switch {
		case sum > 0:
			missing[i] = 1
		case sum < 0:
			missing[i] = -1
		}
	}
	return missing
}

// slowLearned returns the setting that is learned from a pulse.
func slowLearned(s pulse.Sled, l []pulse.Step, c []api.Interval, measured []int, step int) []pulse.Step {
	learned := slices.Clone(l)
	for i, wish := range slowWishes(s, l, c, measured) {
		if l[i].From >= len(c) {
			continue
		}
		valve := l[i].Valve + step*wish
		if valve < 0 {
			valve = 0
		}
		if valve > pulse.Full {
			valve = pulse.Full
		}
		next := slices.Clone(learned)
		next[i].Valve = valve
		if slowSafe(s, next, len(c)) {
			learned = next
		}
	}
	return learned
}

// slowSets returns all sets of some packs, each as ascending indices.
func slowSets(n int) [][]int {
	if n == 0 {
		return [][]int{nil}
	}
	var l [][]int
	for _, s := range slowSets(n - 1) {
		l = append(l, s, append(slices.Clone(s), n-1))
	}
	return l
}

// slowSums returns the sum of the impulses of a set, and that of its costs.
func slowSums(l []pulse.Pack, set []int) (int, int) {
	impulse, cost := 0, 0
	for _, i := range set {
		for range l[i].Time {
			impulse += l[i].Force
		}
		cost += l[i].Cost
	}
	return impulse, cost
}

// slowCheapest returns the cheapest set and its cost, and whether one fits.
func slowCheapest(l []pulse.Pack, target api.Interval) (priced, bool) {
	best, found := priced{}, false
	for _, set := range slowSets(len(l)) {
		impulse, cost := slowSums(l, set)
		if impulse < target.Low || impulse > target.High {
			continue
		}
		less := cost < best.second
		if cost == best.second {
			less = len(set) < len(best.first) || len(set) == len(best.first) && slices.Compare(set, best.first) < 0
		}
		if !found || less {
			best, found = priced{set, cost}, true
		}
	}
	return best, found
}

// slowBound returns the bound of a price: the least cost of all sets, fitting or not, if impulses are paid back by the price, and the target is bought by it.
func slowBound(l []pulse.Pack, target api.Interval, price int) int {
	var costs []int
	for _, set := range slowSets(len(l)) {
		impulse, cost := slowSums(l, set)
		end := target.High
		if price >= 0 {
			end = target.Low
		}
		costs = append(costs, cost-price*impulse+price*end)
	}
	return slices.Min(costs)
}

// slowSpread returns the spread of runs.
func slowSpread(l [][]int) []api.Interval {
	var spread []api.Interval
	for _, a := range l[0] {
		spread = append(spread, to(a, a))
	}
	for _, run := range l {
		for t, a := range run {
			if a < spread[t].Low {
				spread[t].Low = a
			}
			if a > spread[t].High {
				spread[t].High = a
			}
		}
	}
	return spread
}

// slowMean returns the mean of runs.
func slowMean(l [][]int) []int {
	var mean []int
	for t := range l[0] {
		sum := new(big.Rat)
		for _, run := range l {
			sum.Add(sum, by(run[t], len(l)))
		}
		mean = append(mean, slowDown(sum.Add(sum, by(1, 2))))
	}
	return mean
}

// slowPart returns the part of a pulse that one side of a slope has.
func slowPart(l []int, side, whole int) []api.Interval {
	var part []api.Interval
	for _, a := range l {
		x := by(a*side, whole)
		part = append(part, to(slowDown(x), -slowDown(x.Neg(x))))
	}
	return part
}
