package garage

import (
	"cmp"
	"slices"

	"crumple/api"
	"crumple/check"
	"crumple/lists"
)

// CheckJobs returns the first error of jobs, or OK.
func CheckJobs(l []Job) api.Errno {
	names := check.Names{}
	return check.First(check.When(len(l) > api.MaxExact, api.ErrMany), check.Each(l, func(j Job) api.Errno {
		return check.First(
			check.Name(j.Name),
			names.Take(j.Name),
			check.Within(j.Dummy, 0, MaxNumber),
			check.Within(j.Crew, 0, MaxNumber),
			check.Within(j.Hall, 0, MaxNumber),
			check.Within(j.Time, 1, MaxTime),
			check.Within(j.Soak, 0, MaxSoak),
		)
	}))
}

// checkStarts returns the first error of the starts of some jobs, or OK.
func checkStarts(starts []int, jobs int) api.Errno {
	return check.First(check.When(len(starts) != jobs, api.ErrShape), check.Each(starts, func(start int) api.Errno {
		return check.Within(start, 0, MaxWait)
	}))
}

// free returns from which tick on another job may come after one with a start; at any tick, if they share nothing.
func (j Job) free(start int, other Job) int {
	switch {
	case j.Dummy == other.Dummy:
		return start + j.Time + j.Soak
	case j.Crew == other.Crew || j.Hall == other.Hall:
		return start + j.Time
	}
	return 0
}

// isSchedule reports whether starts are a schedule of jobs.
func isSchedule(l []Job, starts []int) bool {
	for i, a := range l {
		for j, b := range l[:i] {
			if a.free(starts[i], b) > starts[j] && b.free(starts[j], a) > starts[i] {
				return false
			}
		}
	}
	return true
}

// CheckSchedule returns the first error of a schedule, or OK.
func CheckSchedule(l []Job, starts []int) api.Errno {
	if e := check.First(CheckJobs(l), checkStarts(starts, len(l))); e != api.OK {
		return e
	}
	return check.When(!isSchedule(l, starts), api.ErrConflict)
}

// End returns the end of a schedule.
func End(l []Job, starts []int) (int, api.Errno) {
	if e := CheckSchedule(l, starts); e != api.OK {
		return 0, e
	}
	end := 0
	for i, j := range l {
		end = max(end, starts[i]+j.Time)
	}
	return end, api.OK
}

// compareSoaks compares two jobs by their soak times.
func (j Job) compareSoaks(other Job) int {
	return cmp.Compare(j.Soak, other.Soak)
}

// sum returns the sum of a number of each job.
func sum(l []Job, number func(Job) int) int {
	sum := 0
	for _, x := range lists.Mapped(l, number) {
		sum += x
	}
	return sum
}

// bound returns the bound of jobs.
func bound(l []Job) int {
	busy := func(j Job) int { return j.Time }
	away := func(j Job) int { return j.Time + j.Soak }
	bound := 0
	for _, j := range l {
		crew := lists.Kept(l, func(other Job) bool { return other.Crew == j.Crew })
		hall := lists.Kept(l, func(other Job) bool { return other.Hall == j.Hall })
		dummy := lists.Kept(l, func(other Job) bool { return other.Dummy == j.Dummy })
		// Whichever of its jobs is the last one, nobody waits for this one's soak time.
		last := slices.MaxFunc(dummy, Job.compareSoaks)
		bound = max(bound, sum(crew, busy), sum(hall, busy), sum(dummy, away)-last.Soak)
	}
	return bound
}

// Bound returns an end that no schedule falls below.
func Bound(l []Job) (int, api.Errno) {
	if e := CheckJobs(l); e != api.OK {
		return 0, e
	}
	return bound(l), api.OK
}
