package office_test

import (
	"fmt"
	"math/rand/v2"
	"slices"
	"testing"

	"crumple/api"
	"crumple/office"
)

// P10.5 (consequences): what follows from the results, for many inputs; the dice are the same on each run.

// replay returns the register after events that are accepted.
func replay(t *testing.T, l []api.Event) office.Register {
	t.Helper()
	r, _, e := office.Replay(l)
	want(t, "Replay of "+told(l), e, api.OK)
	return r
}

// corrected returns events with a correction of each channel and a revision of each programme after them, as far as they are permitted.
func corrected(l []api.Event, register office.Register, r *rand.Rand) []api.Event {
	for _, c := range register.Channels {
		if len(c.Values) < office.MaxVersions {
			l = then(l, fmt.Sprintf("correct %s %d %d", c.Name, register.Day, between(r, 0, 12)))
		}
	}
	for _, p := range register.Programmes {
		if len(p.Scales) < office.MaxVersions {
			l = then(l, fmt.Sprintf("revise %s %d %d %d", p.Name, register.Day, between(r, 0, 5), between(r, 6, 12)))
		}
	}
	return l
}

func TestScoresAreTheSameAgain(t *testing.T) {
	r := dice(10)
	seen, moved := 0, 0
	for range 400 {
		l := someJournal(r, between(r, 20, 90))
		before := replay(t, l)
		later := corrected(l, before, r)
		for _, s := range before.Scores {
			what := fmt.Sprintf(" of %s after %s", s.Name, told(later))
			points, e := office.Again(l, s.Name)
			wantOK(t, "Again"+what, points, e, s.Points)
			points, e = office.Again(later, s.Name)
			wantOK(t, "Again"+what, points, e, s.Points)
			chain, e := office.Provenance(l, s.Name)
			want(t, "Provenance"+what, e, api.OK)
			same, e := office.Provenance(later, s.Name)
			wantOK(t, "Provenance"+what, same, e, chain)
			// The provenance alone proves the points.
			points, e = office.Points(chain.Scale, chain.Value)
			wantOK(t, "Points"+what, points, e, s.Points)
			want(t, "CheckProvenance"+what, office.CheckProvenance(later, s.Name, chain), api.OK)
			seen++
			if newer, _ := office.Newer(later, s.Name); newer != s.Points {
				moved++
			}
		}
	}
	want(t, fmt.Sprintf("whether there are many scores, and newest versions with other points (%d, %d)", seen, moved), min(seen, moved) > 300, true)
}

func TestOnlyTheProvenanceOfAScoreProvesIt(t *testing.T) {
	r := dice(11)
	proofs := 0
	for range 200 {
		l := someJournal(r, between(r, 20, 80))
		register := replay(t, l)
		for _, s := range register.Scores {
			own, e := office.Provenance(l, s.Name)
			want(t, "Provenance", e, api.OK)
			for _, other := range falseChains(own) {
				want(t, fmt.Sprintf("CheckProvenance of %v", other), office.CheckProvenance(l, s.Name, other), api.ErrProof)
			}
			key := someKey(r)
			mark, e := office.Mark(l, s.Name, key)
			want(t, "Mark", e, api.OK)
			key[r.IntN(8)]++
			other, e := office.Mark(l, s.Name, key)
			want(t, "Mark", e, api.OK)
			want(t, "whether another key has the same mark", mark == other, false)
			// No other score has this provenance: it names another channel or another programme.
			for _, s2 := range register.Scores {
				if s2.Name != s.Name {
					proofs++
					want(t, "CheckProvenance of another score", office.CheckProvenance(l, s2.Name, own), api.ErrProof)
				}
			}
		}
	}
	want(t, "whether there are many", proofs > 100, true)
}

func TestAWithdrawnCertificateQuestionsExactlyItsTests(t *testing.T) {
	r := dice(12)
	questioned := 0
	for range 300 {
		l := someJournal(r, between(r, 0, 80))
		register := replay(t, l)
		before, e := office.Questioned(l)
		want(t, "Questioned", e, api.OK)
		for _, c := range register.Certs {
			if c.Withdrawn {
				continue
			}
			var wanted []string
			for _, x := range register.Tests {
				if x.Cert == c.Name || slices.Contains(before, x.Name) {
					wanted = append(wanted, x.Name)
				}
			}
			questioned += len(wanted) - len(before)
			after, e := office.Questioned(then(l, fmt.Sprint("withdraw ", c.Name, " ", register.Day)))
			wantOK(t, fmt.Sprintf("Questioned by %s after %s", c.Name, told(l)), after, e, wanted)
		}
	}
	want(t, fmt.Sprintf("whether many are questioned (%d)", questioned), questioned > 100, true)
}

func TestNoVersionIsEverLost(t *testing.T) {
	r := dice(13)
	further := 0
	for range 200 {
		l := someJournal(r, between(r, 0, 80))
		for i := 1; i < len(l); i++ {
			if l[i].Kind == "undo" {
				continue
			}
			before, after := replay(t, l[:i]), replay(t, l[:i+1])
			for k, c := range before.Channels {
				values := after.Channels[k].Values
				want(t, "the versions after "+line(l[i]), values[:len(c.Values)], c.Values)
				want(t, "whether only a correction adds one", len(values) > len(c.Values), l[i].Kind == "correct" && l[i].Names[0] == c.Name)
				further += len(values) - len(c.Values)
			}
			for k, p := range before.Programmes {
				scales := after.Programmes[k].Scales
				want(t, "the versions after "+line(l[i]), scales[:len(p.Scales)], p.Scales)
				want(t, "whether only a revision adds one", len(scales) > len(p.Scales), l[i].Kind == "revise" && l[i].Names[0] == p.Name)
				further += len(scales) - len(p.Scales)
			}
		}
	}
	want(t, fmt.Sprintf("whether there are many further versions (%d)", further), further > 300, true)
}

func TestPointsDoNotGrowWithTheValue(t *testing.T) {
	r := dice(14)
	for range 5000 {
		most := one(r, []int{9, 99, 9999, api.MaxNumber - 1})
		best := between(r, 0, most)
		scale := office.Scale{Best: best, Worst: between(r, best+1, most+1)}
		a := between(r, 0, most)
		b := between(r, a, most)
		p, e := office.Points(scale, a)
		want(t, "Points", e, api.OK)
		q, e := office.Points(scale, b)
		want(t, "Points", e, api.OK)
		want(t, fmt.Sprintf("whether %d has less points than %d on %v", a, b, scale), p < q, false)
		want(t, "whether there are from 0 to 1000", min(p, q) >= 0 && max(p, q) <= office.Full, true)
	}
}

func TestEachDayAPartHasOneKeeper(t *testing.T) {
	r := dice(15)
	handed := 0
	for range 400 {
		l := someJournal(r, between(r, 0, 60))
		register := replay(t, l)
		for _, p := range register.Parts {
			keepers, e := office.Custody(l, p.Name)
			want(t, "Custody", e, api.OK)
			want(t, "the last keeper", keepers[len(keepers)-1].Name, p.Keeper)
			handed += len(keepers) - 1
			for day := keepers[0].Day; day <= register.Day; day++ {
				var keeper string
				for _, k := range keepers {
					if k.Day <= day {
						keeper = k.Name
					}
				}
				then, e := office.AsOf(l, day)
				want(t, "AsOf", e, api.OK)
				want(t, fmt.Sprintf("whether %s has %s on %d after %s", keeper, p.Name, day, told(l)), slices.Contains(then.Parts, office.Part{Name: p.Name, Keeper: keeper}), true)
			}
			for i := 1; i < len(keepers); i++ {
				want(t, "whether a keeper follows themselves, or an earlier day a later one", keepers[i].Name == keepers[i-1].Name || keepers[i].Day < keepers[i-1].Day, false)
			}
		}
	}
	want(t, fmt.Sprintf("whether many are handed on (%d)", handed), handed > 200, true)
}

func TestTheMeanIsBetweenPointsInAnyOrder(t *testing.T) {
	r := dice(16)
	for range 300 {
		var points []int
		for range between(r, 1, 12) {
			points = append(points, one(r, []int{0, 199, 200, 900, 1000, between(r, 0, 1000)}))
		}
		l := graded(points...)
		mean, e := office.Mean(l, "g")
		want(t, "Mean", e, api.OK)
		stars, e := office.Stars(l, "g")
		want(t, "Stars", e, api.OK)
		want(t, fmt.Sprintf("whether %v is between two of %v", mean, points), slices.Min(points)*mean.Den <= mean.Num && mean.Num <= slices.Max(points)*mean.Den, true)
		r.Shuffle(len(points), func(i, k int) { points[i], points[k] = points[k], points[i] })
		again, e := office.Mean(graded(points...), "g")
		wantOK(t, "Mean in another order", again, e, mean)
		n, e := office.Stars(graded(points...), "g")
		wantOK(t, "Stars in another order", n, e, stars)
	}
}

func TestTheStoryOfATestIsAccepted(t *testing.T) {
	r := dice(17)
	shorter, graded := 0, 0
	for range 400 {
		l := someJournal(r, between(r, 0, 90))
		register := replay(t, l)
		for _, x := range register.Tests {
			story, e := office.Story(l, x.Name)
			want(t, "Story", e, api.OK)
			own := replay(t, story)
			want(t, "the tests of the story of "+x.Name, own.Tests, []office.Test{x})
			if len(story) < len(l) {
				shorter++
			}
			// The channels, the programmes and the scores are the same by it, and so is the custody of the part.
			var channels []office.Channel
			for _, c := range register.Channels {
				if c.Test == x.Name {
					channels = append(channels, c)
				}
			}
			want(t, "its channels", own.Channels, channels)
			want(t, "its programmes", own.Programmes, register.Programmes)
			var scores []office.Score
			for _, s := range register.Scores {
				if slowTest(register, s.Channel).Name == x.Name {
					scores = append(scores, s)
					chain, e := office.Provenance(l, s.Name)
					want(t, "Provenance", e, api.OK)
					want(t, "CheckProvenance by the story", office.CheckProvenance(story, s.Name, chain), api.OK)
					graded++
				}
			}
			want(t, "its scores", own.Scores, scores)
			keepers, e := office.Custody(l, x.Part)
			want(t, "Custody", e, api.OK)
			same, e := office.Custody(story, x.Part)
			wantOK(t, "Custody by the story", same, e, keepers)
			again, e := office.Story(story, x.Name)
			wantOK(t, "the story of the story", again, e, story)
		}
	}
	want(t, fmt.Sprintf("whether many are shorter, and have scores (%d, %d)", shorter, graded), min(shorter, graded) > 200, true)
}

func TestUndoTakesBackJustTheLastEvent(t *testing.T) {
	r := dice(18)
	undone, final := map[string]int{}, map[string]int{}
	for range 400 {
		l := someJournal(r, between(r, 0, 60))
		before := replay(t, l)
		for range 10 {
			e := someEvent(r, l)
			if e.Kind == "undo" || office.Accepts(l, e) != api.OK {
				continue
			}
			longer := append(slices.Clone(l), e)
			undo := event(len(longer)+1, "undo")
			if slices.Contains([]string{"withdraw", "uphold", "change"}, e.Kind) {
				want(t, "Accepts of undo after "+line(e), office.Accepts(longer, undo), api.ErrRule)
				final[e.Kind]++
				continue
			}
			undone[e.Kind]++
			want(t, "the register after "+line(e)+" and undo", replay(t, append(longer, undo)), before)
		}
	}
	want(t, fmt.Sprintf("whether all kinds are often undone, or final (%v, %v)", undone, final), len(undone) == 10 && len(final) == 3, true)
}

func TestADamagedLogLeadsToEventsThatWereThere(t *testing.T) {
	r := dice(19)
	for range 40 {
		l := someJournal(r, between(r, 1, 12))
		log := slowLog(l)
		wantPrefix := func(damaged, what string) {
			got, end, e := office.Recover(damaged)
			want(t, what+" of "+log, got, l[:len(got)])
			want(t, "the prefix"+what, damaged[:end], slowLog(got))
			want(t, "whether it is whole"+what, e == api.OK, end == len(damaged))
			// What was there gives the register that was there.
			s, errno := office.Open(damaged)
			if e == api.OK || e == api.ErrTorn {
				want(t, "Open"+what, errno, api.OK)
				want(t, "the register"+what, replay(t, s.Events()), slowRegister(slowCounting(l[:len(got)])))
			}
		}
		for at := range len(log) + 1 {
			wantPrefix(log[:at], fmt.Sprintf("Recover of %d bytes", at))
		}
		for at := range len(log) {
			for _, b := range []byte{'\n', '#', ' ', '0', byte(between(r, '0', '9')), 'x', 0, 255, log[at] + 1, log[at] - 1, log[at] ^ 128, byte(r.IntN(256))} {
				if b == log[at] {
					continue
				}
				damaged := []byte(log)
				damaged[at] = b
				what := fmt.Sprintf("Recover with %q at %d", b, at)
				got, _, e := office.Recover(string(damaged))
				want(t, "whether it is whole "+what, e == api.OK, false)
				want(t, "whether all before is there "+what, len(slowLog(got)) <= at, true)
				wantPrefix(string(damaged), what)
			}
		}
	}
}
