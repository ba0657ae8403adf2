package office_test

import (
	"fmt"
	"math/rand/v2"
	"strings"
	"testing"

	"crumple/api"
	"crumple/office"
	"crumple/record"
)

// P10.2 (scores): each function with ordinary inputs, at its limits, and with its errors in their order; events_test.go has the errors of events that they return.

func TestPoints(t *testing.T) {
	scale := office.Scale{Best: 200, Worst: 700}
	most := office.Scale{Best: 0, Worst: api.MaxNumber}
	for _, x := range []struct {
		scale         office.Scale
		value, points int
	}{
		{scale, 450, 500}, {scale, 200, 1000}, {scale, 700, 0}, {scale, 701, 0}, {scale, 451, 498}, {scale, 0, 1000}, {scale, 199, 1000}, {scale, 201, 998}, {scale, 699, 2}, {scale, api.MaxNumber, 0},
		{office.Scale{Best: 0, Worst: 1}, 0, 1000}, {office.Scale{Best: 0, Worst: 1}, 1, 0}, {office.Scale{Best: 0, Worst: 3}, 1, 666}, {office.Scale{Best: 0, Worst: 3}, 2, 333}, {office.Scale{Best: 5, Worst: 5000}, 4999, 0}, {office.Scale{Best: 5, Worst: 5000}, 6, 999},
		{most, 0, 1000}, {most, 1, 999}, {most, api.MaxNumber, 0}, {most, api.MaxNumber - 1, 0}, {most, 500000000, 499}, {most, 499999999, 500}, {office.Scale{Best: api.MaxNumber - 1, Worst: api.MaxNumber}, api.MaxNumber - 1, 1000}, {office.Scale{Best: api.MaxNumber - 1, Worst: api.MaxNumber}, api.MaxNumber, 0},
	} {
		points, e := office.Points(x.scale, x.value)
		wantOK(t, fmt.Sprintf("Points of %d on %v", x.value, x.scale), points, e, x.points)
	}
}

func TestErrorsOfPoints(t *testing.T) {
	check := func(best, worst, value int, wanted api.Errno) {
		points, e := office.Points(office.Scale{Best: best, Worst: worst}, value)
		wantError(t, fmt.Sprintf("Points of %d on %d, %d", value, best, worst), points, e, wanted)
	}
	for _, n := range outside(0, api.MaxNumber) {
		check(n, 7, 3, api.ErrRange)
		check(n, -1, -1, api.ErrRange)
		check(n, n, n, api.ErrRange)
		check(3, n, 3, api.ErrRange)
		check(3, n, -1, api.ErrRange)
		check(3, 7, n, api.ErrRange)
		check(3, 3, n, api.ErrSpan)
		check(7, 3, n, api.ErrSpan)
	}
	for _, best := range []int{0, 1, api.MaxNumber} {
		for _, worst := range []int{0, 1, api.MaxNumber} {
			if best >= worst {
				check(best, worst, 0, api.ErrSpan)
			}
		}
	}
}

func TestPointsByTheDefinition(t *testing.T) {
	r := dice(2)
	for range 20000 {
		most := one(r, []int{9, 99, 9999, api.MaxNumber})
		best := between(r, 0, most-1)
		worst := between(r, best+1, most)
		value := between(r, 0, most)
		points, e := office.Points(office.Scale{Best: best, Worst: worst}, value)
		wantOK(t, fmt.Sprintf("Points of %d on %d, %d", value, best, worst), points, e, slowPoints(best, worst, value))
	}
}

func TestAgainAndNewer(t *testing.T) {
	appealed := then(journal(), "correct h 3 300", "appeal s 3")
	for _, x := range []struct {
		l            []api.Event
		again, newer int
	}{
		{journal(), 500, 500}, {then(journal(), "correct h 3 300"), 500, 800}, {then(journal(), "revise g 3 0 450"), 500, 0}, {then(journal(), "revise g 3 0 450", "correct h 3 45"), 500, 900}, {then(journal(), "correct h 3 300", "correct h 3 700"), 500, 0}, {then(journal(), "correct h 3 300", "undo"), 500, 500},
		{appealed, 500, 800}, {then(appealed, "uphold s 3"), 500, 800}, {then(appealed, "change s 3"), 800, 800}, {then(appealed, "change s 3", "correct h 4 250"), 800, 900}, {then(appealed, "change s 3", "revise g 4 0 300"), 800, 0},
		// A certificate that is withdrawn changes no points, nor do other channels and programmes.
		{then(journal(), "withdraw c 3", "correct h 3 300"), 500, 800}, {then(journal(), "channel k t 3 0", "correct k 3 1", "programme f 3 0 1", "revise f 3 0 2"), 500, 500},
	} {
		what := " after " + told(x.l)
		points, e := office.Again(x.l, "s")
		wantOK(t, "Again"+what, points, e, x.again)
		points, e = office.Newer(x.l, "s")
		wantOK(t, "Newer"+what, points, e, x.newer)
	}
}

func TestUnknownScores(t *testing.T) {
	for _, l := range [][]api.Event{nil, journal(), then(journal(), "undo")} {
		for _, name := range []string{"", "h", "g", "t", "S", "x", longest, "s "} {
			what := fmt.Sprintf(" of %q after %s", name, told(l))
			points, e := office.Again(l, name)
			wantError(t, "Again"+what, points, e, api.ErrUnknown)
			points, e = office.Newer(l, name)
			wantError(t, "Newer"+what, points, e, api.ErrUnknown)
			chain, e := office.Provenance(l, name)
			wantError(t, "Provenance"+what, chain, e, api.ErrUnknown)
			for _, c := range []office.Chain{{}, chainOfJ()} {
				want(t, "CheckProvenance"+what, office.CheckProvenance(l, name, c), api.ErrUnknown)
			}
			mark, e := office.Mark(l, name, api.Key{1, 2, 3})
			wantError(t, "Mark"+what, mark, e, api.ErrUnknown)
		}
	}
	mark, e := office.Mark(then(journal(), "undo"), "s", api.Key{1})
	wantError(t, "Mark of a score that is undone", mark, e, api.ErrUnknown)
}

// graded returns events in which a programme g has scores with some points, in their order.
func graded(points ...int) []api.Event {
	l := events("part p ann 1", "cert c p 1 9", "test t p 2", "programme g 2 0 1000", "programme f 2 0 1")
	for i, p := range points {
		l = then(l, fmt.Sprintf("channel h%d t 2 %d", i, 1000-p), fmt.Sprintf("score s%d h%d g 2", i, i))
	}
	return l
}

func TestMeanAndStars(t *testing.T) {
	for _, x := range []struct {
		l     []api.Event
		mean  api.Ratio
		stars int
	}{
		{journal(), api.Ratio{Num: 500, Den: 1}, 2}, {graded(0), api.Ratio{Num: 0, Den: 1}, 0}, {graded(1000), api.Ratio{Num: 1000, Den: 1}, 5}, {graded(0, 0, 0), api.Ratio{Num: 0, Den: 1}, 0}, {graded(0, 1), api.Ratio{Num: 1, Den: 2}, 0}, {graded(0, 0, 1), api.Ratio{Num: 1, Den: 3}, 0}, {graded(5, 7), api.Ratio{Num: 6, Den: 1}, 0}, {graded(1, 2, 3, 4), api.Ratio{Num: 5, Den: 2}, 0},
		{graded(199), api.Ratio{Num: 199, Den: 1}, 0}, {graded(200), api.Ratio{Num: 200, Den: 1}, 1}, {graded(399), api.Ratio{Num: 399, Den: 1}, 1}, {graded(400), api.Ratio{Num: 400, Den: 1}, 2}, {graded(599), api.Ratio{Num: 599, Den: 1}, 2}, {graded(600), api.Ratio{Num: 600, Den: 1}, 3}, {graded(749), api.Ratio{Num: 749, Den: 1}, 3}, {graded(750), api.Ratio{Num: 750, Den: 1}, 4}, {graded(899), api.Ratio{Num: 899, Den: 1}, 4}, {graded(900), api.Ratio{Num: 900, Den: 1}, 5},
		// Means are not rounded.
		{graded(899, 900), api.Ratio{Num: 1799, Den: 2}, 4}, {graded(750, 750, 749), api.Ratio{Num: 2249, Den: 3}, 3}, {graded(900, 901, 899), api.Ratio{Num: 900, Den: 1}, 5}, {graded(0, 1000, 199), api.Ratio{Num: 1199, Den: 3}, 1},
		// Of a score that is appealed, upheld or changed the points count as of all others; those of other programmes do not.
		{then(graded(500, 700), "appeal s0 3"), api.Ratio{Num: 600, Den: 1}, 3}, {then(graded(500, 700), "correct h0 3 0", "appeal s0 3", "uphold s0 3"), api.Ratio{Num: 600, Den: 1}, 3}, {then(graded(500, 700), "correct h0 3 0", "appeal s0 3", "change s0 3"), api.Ratio{Num: 850, Den: 1}, 4}, {then(graded(500, 700), "score x h0 f 3"), api.Ratio{Num: 600, Den: 1}, 3}, {then(graded(500, 700), "undo"), api.Ratio{Num: 500, Den: 1}, 2}, {then(graded(500, 700), "withdraw c 3"), api.Ratio{Num: 600, Den: 1}, 3},
	} {
		what := " after " + told(x.l)
		mean, e := office.Mean(x.l, "g")
		wantOK(t, "Mean"+what, mean, e, x.mean)
		stars, e := office.Stars(x.l, "g")
		wantOK(t, "Stars"+what, stars, e, x.stars)
	}
	mean, e := office.Mean(full(), "g7")
	wantOK(t, "Mean of eight scores, of which one has a corrected value", mean, e, api.Ratio{Num: 1875, Den: 4})
	for _, x := range []struct {
		l         []api.Event
		programme string
		e         api.Errno
	}{
		{nil, "g", api.ErrUnknown}, {graded(5), "x", api.ErrUnknown}, {graded(5), "", api.ErrUnknown}, {graded(5), "h0", api.ErrUnknown}, {graded(5), "s0", api.ErrUnknown}, {graded()[:3], "g", api.ErrUnknown}, {then(graded(), "undo"), "f", api.ErrUnknown},
		{graded(), "g", api.ErrNone}, {graded(5), "f", api.ErrNone}, {then(graded(5), "undo"), "g", api.ErrNone}, {journal()[:5], "g", api.ErrNone},
	} {
		what := fmt.Sprintf(" of %q after %s", x.programme, told(x.l))
		mean, e := office.Mean(x.l, x.programme)
		wantError(t, "Mean"+what, mean, e, x.e)
		stars, e := office.Stars(x.l, x.programme)
		wantError(t, "Stars"+what, stars, e, x.e)
	}
}

// chainOfJ returns the provenance of the score of J.
func chainOfJ() office.Chain {
	return office.Chain{Points: 500, Programme: "g", Rule: 0, Scale: office.Scale{Best: 200, Worst: 700}, Channel: "h", Version: 0, Value: 450, Test: "t", Part: "p", Cert: "c"}
}

// falseChains returns provenances that differ from one in one part of it each.
func falseChains(c office.Chain) []office.Chain {
	var l []office.Chain
	for _, change := range []func(c *office.Chain){
		func(c *office.Chain) { c.Points++ }, func(c *office.Chain) { c.Points = -c.Points - 1 }, func(c *office.Chain) { c.Programme += "x" }, func(c *office.Chain) { c.Rule++ }, func(c *office.Chain) { c.Scale.Best-- }, func(c *office.Chain) { c.Scale.Worst++ }, func(c *office.Chain) { c.Channel = "" }, func(c *office.Chain) { c.Version-- }, func(c *office.Chain) { c.Value++ }, func(c *office.Chain) { c.Test = "T" + c.Test }, func(c *office.Chain) { c.Part = "\xff" }, func(c *office.Chain) { c.Cert = longest + c.Cert }, func(c *office.Chain) { *c = office.Chain{} },
	} {
		other := c
		change(&other)
		l = append(l, other)
	}
	return l
}

func TestProvenance(t *testing.T) {
	changed := then(journal(), "cert d p 3 20", "correct h 3 300", "revise g 3 100 300", "appeal s 3", "change s 3", "correct h 4 1", "revise g 4 1 2", "withdraw c 4", "hand p bob 4")
	// All names are as long as they may be, all numbers as great.
	long := func(s string) string {
		for _, letter := range []string{"P", "C", "T", "H", "G", "S"} {
			s = strings.ReplaceAll(s, letter, letter+longest[1:])
		}
		return s
	}
	greatest := events(strings.Split(long("part P A 0; cert C P 0 999999999; test T P 0; channel H T 0 999999999; programme G 0 999999998 999999999; score S H G 0"), "; ")...)
	for _, x := range []struct {
		l     []api.Event
		score string
		c     office.Chain
		text  string
	}{
		{journal(), "s", chainOfJ(), "500 g 0 200 700 h 0 450 t p c"}, {then(journal(), "correct h 3 300", "revise g 3 1 2", "withdraw c 3", "cert d p 3 9"), "s", chainOfJ(), "500 g 0 200 700 h 0 450 t p c"},
		{changed, "s", office.Chain{Points: 0, Programme: "g", Rule: 1, Scale: office.Scale{Best: 100, Worst: 300}, Channel: "h", Version: 1, Value: 300, Test: "t", Part: "p", Cert: "c"}, "0 g 1 100 300 h 1 300 t p c"},
		{greatest, long("S"), office.Chain{Points: 0, Programme: long("G"), Scale: office.Scale{Best: 999999998, Worst: 999999999}, Channel: long("H"), Value: 999999999, Test: long("T"), Part: long("P"), Cert: long("C")}, long("0 G 0 999999998 999999999 H 0 999999999 T P C")},
		{then(graded(5, 7, 9), "score x h2 f 3"), "s1", office.Chain{Points: 7, Programme: "g", Scale: office.Scale{Worst: 1000}, Channel: "h1", Value: 993, Test: "t", Part: "p", Cert: "c"}, "7 g 0 0 1000 h1 0 993 t p c"},
	} {
		what := " after " + told(x.l)
		c, e := office.Provenance(x.l, x.score)
		wantOK(t, "Provenance"+what, c, e, x.c)
		want(t, "CheckProvenance"+what, office.CheckProvenance(x.l, x.score, c), api.OK)
		for _, other := range falseChains(c) {
			want(t, fmt.Sprintf("CheckProvenance of %v", other)+what, office.CheckProvenance(x.l, x.score, other), api.ErrProof)
		}
		want(t, "the second reading of its string"+what, slowText(c), x.text)
		for _, key := range []api.Key{{}, {9, 8, 7, 6, 5, 4, 3, 2}, {255, 255, 255, 255, 255, 255, 255, 255}} {
			mark, e := office.Mark(x.l, x.score, key)
			wantOK(t, "Mark"+what, mark, e, slowSeal(key, x.text))
			seal, e := record.Seal(key, []byte(x.text))
			wantOK(t, "Seal"+what, mark, e, seal)
		}
	}
	want(t, "CheckProvenance of another score", office.CheckProvenance(graded(5, 7), "s0", office.Chain{Points: 7, Programme: "g", Scale: office.Scale{Worst: 1000}, Channel: "h1", Value: 993, Test: "t", Part: "p", Cert: "c"}), api.ErrProof)
}

// someKey returns a key.
func someKey(r *rand.Rand) api.Key {
	var key api.Key
	for i := range key {
		key[i] = byte(r.IntN(256))
	}
	return key
}

func TestScoresByTheDefinition(t *testing.T) {
	r := dice(3)
	reached := map[string]int{}
	for range 500 {
		l := someJournal(r, between(r, 30, 90))
		what := " after " + told(l)
		counting := slowCounting(l)
		register := slowRegister(counting)
		for _, s := range register.Scores {
			points, e := office.Again(l, s.Name)
			wantOK(t, "Again"+what, points, e, s.Points)
			newer, e := office.Newer(l, s.Name)
			wantOK(t, "Newer"+what, newer, e, slowNewer(counting, s))
			wanted := slowChain(register, s)
			c, e := office.Provenance(l, s.Name)
			wantOK(t, "Provenance"+what, c, e, wanted)
			want(t, "CheckProvenance"+what, office.CheckProvenance(l, s.Name, wanted), api.OK)
			key := someKey(r)
			mark, e := office.Mark(l, s.Name, key)
			wantOK(t, "Mark"+what, mark, e, slowSeal(key, slowText(wanted)))
			reached[fmt.Sprint("score in state ", s.State)]++
			if newer != points {
				reached["newer"]++
			}
		}
		for _, p := range register.Programmes {
			wanted, stars, ok := slowStars(register, p.Name)
			mean, e := office.Mean(l, p.Name)
			n, e2 := office.Stars(l, p.Name)
			if !ok {
				wantError(t, "Mean"+what, mean, e, api.ErrNone)
				wantError(t, "Stars"+what, n, e2, api.ErrNone)
				continue
			}
			wantOK(t, "Mean"+what, mean, e, api.Ratio{Num: int(wanted.Num().Int64()), Den: int(wanted.Denom().Int64())})
			wantOK(t, "Stars"+what, n, e2, stars)
			reached[fmt.Sprint("stars ", stars)]++
		}
	}
	for _, x := range []string{"score in state 0", "score in state 1", "score in state 2", "score in state 3", "newer", "stars 0", "stars 1", "stars 2", "stars 3", "stars 4", "stars 5"} {
		want(t, fmt.Sprintf("whether %s is often reached (%d times)", x, reached[x]), reached[x] > 10, true)
	}
}
