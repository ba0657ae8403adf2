package injury

import (
	"cmp"
	"iter"
	"slices"

	"crumple/api"
	"crumple/check"
	"crumple/lists"
	"crumple/quotient"
)

// rated is a window of a series with its worth.
type rated struct {
	api.Span
	worth api.Ratio
}

// sums is the sums of the first integers of a series, by how many they are.
type sums map[int]int

// checkUnit returns ErrRange if a number is no integer of a sample, or OK.
func checkUnit(x int) api.Errno {
	return check.Within(x, -api.MaxUnit, api.MaxUnit)
}

// CheckSeries returns the first error of a series, or OK.
func CheckSeries(l []int) api.Errno {
	return check.First(check.Count(len(l), MaxSeries), check.Each(l, checkUnit))
}

// checkWindow returns ErrSpan if a span is no window of a series with some integers, or OK.
func checkWindow(w api.Span, size int) api.Errno {
	return check.When(w.From < 0 || w.From >= w.To || w.To > size, api.ErrSpan)
}

// checkLengths returns the first error of lengths, or OK.
func checkLengths(lengths api.Interval) api.Errno {
	return check.Interval(lengths, 1, MaxSeries)
}

// checkEnough returns ErrShort if there are fewer integers than are needed, or OK.
func checkEnough(size, needed int) api.Errno {
	return check.When(size < needed, api.ErrShort)
}

// windows visits all windows of a series with some integers that have one of the lengths.
func windows(size int, lengths api.Interval) iter.Seq[api.Span] {
	return func(visit func(api.Span) bool) {
		for from := range size {
			last := min(from+lengths.High, size)
			for to := from + lengths.Low; to <= last; to++ {
				if !visit(api.Span{From: from, To: to}) {
					return
				}
			}
		}
	}
}

// sumsOf returns the sums of the first integers of a series.
func sumsOf(l []int) sums {
	s := sums{0: 0}
	for i, x := range l {
		s[i+1] = s[i] + x
	}
	return s
}

// worth returns the worth of a window.
func (s sums) worth(w api.Span) api.Ratio {
	sum := max(0, s[w.To]-s[w.From])
	return quotient.Ratio(sum*sum, w.To-w.From)
}

// Worth returns the worth of a window of a series.
func Worth(l []int, window api.Span) (api.Ratio, api.Errno) {
	if e := check.First(CheckSeries(l), checkWindow(window, len(l))); e != api.OK {
		return api.Ratio{}, e
	}
	return sumsOf(l).worth(window), api.OK
}

// compare compares two windows by their worths; of two with one worth the first one is the better.
func (r rated) compare(other rated) int {
	return cmp.Or(
		quotient.Compare(r.worth, other.worth),
		cmp.Compare(other.From, r.From),
		cmp.Compare(other.To, r.To),
	)
}

// best returns the best window of a series; at least one has one of the lengths.
func best(l []int, lengths api.Interval) rated {
	s := sumsOf(l)
	var all []rated
	for w := range windows(len(l), lengths) {
		all = append(all, rated{Span: w, worth: s.worth(w)})
	}
	return slices.MaxFunc(all, rated.compare)
}

// Best returns the best window of a series, and its worth.
func Best(l []int, lengths api.Interval) (api.Span, api.Ratio, api.Errno) {
	e := check.First(CheckSeries(l), checkLengths(lengths), checkEnough(len(l), lengths.Low))
	if e != api.OK {
		return api.Span{}, api.Ratio{}, e
	}
	b := best(l, lengths)
	return b.Span, b.worth, api.OK
}

// CheckBest returns OK for the best window and its worth.
func CheckBest(l []int, lengths api.Interval, window api.Span, worth api.Ratio) api.Errno {
	e := check.First(
		CheckSeries(l),
		checkLengths(lengths),
		checkWindow(window, len(l)),
		checkSize(worth),
		checkEnough(len(l), lengths.Low),
	)
	if e != api.OK {
		return e
	}
	claimed := rated{Span: window, worth: worth}
	return check.When(claimed != best(l, lengths), api.ErrProof)
}

// Worst returns the index of the series with the best window of the greatest worth.
func Worst(l [][]int, lengths api.Interval) (int, api.Ratio, api.Errno) {
	e := check.First(
		check.Count(len(l), MaxMany),
		check.Each(l, CheckSeries),
		checkLengths(lengths),
		check.Each(l, func(series []int) api.Errno { return checkEnough(len(series), lengths.Low) }),
	)
	if e != api.OK {
		return 0, api.Ratio{}, e
	}
	worths := lists.Mapped(l, func(series []int) api.Ratio { return best(series, lengths).worth })
	at, worth := greatest(worths)
	return at, worth, api.OK
}
