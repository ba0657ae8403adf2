package film_test

import (
	"fmt"
	"math/rand/v2"
	"slices"
	"testing"

	"crumple/api"
	"crumple/film"
)

// P5.4 (surveys): each function with ordinary inputs, at its limits, and with its errors in their order.

// earlier and later are the surveys of the chapter's examples, quarter is their common frame.
func earlier() []film.Mark {
	return []film.Mark{mark("a", 0, 0, 0), mark("b", 10, 0, 0), mark("c", 0, 5, 0), mark("d", 0, 0, 3)}
}

func later() []film.Mark {
	return []film.Mark{mark("a", 100, 0, 0), mark("b", 100, 10, 0), mark("c", 95, 0, 0), mark("d", 100, 0, 1)}
}

var quarter = film.Frame{Turn: film.Turn{{0, -1, 0}, {1, 0, 0}, {0, 0, 1}}, Shift: place(100, 0, 0)}

// framed is the results of Framed.
type framed struct {
	frame  film.Frame
	marks  []int
	second int
}

func TestSurveysThatAreRight(t *testing.T) {
	var many []film.Mark
	for i := range film.MaxPoints {
		many = append(many, mark(fmt.Sprintf("m%d", i), 1, 1, 1))
	}
	for _, l := range [][]film.Mark{earlier(), later(), many, {mark(longest, film.MaxPlace, -film.MaxPlace, film.MaxPlace), mark("A", -film.MaxPlace, film.MaxPlace, -film.MaxPlace)}} {
		want(t, fmt.Sprintf("CheckSurvey of %v", l), film.CheckSurvey(l), api.OK)
	}
}

func TestCarried(t *testing.T) {
	most := 4 * film.MaxPlace
	for _, x := range []struct {
		f    film.Frame
		p, q api.Vector
	}{
		{quarter, place(10, 0, 0), place(100, 10, 0)}, {quarter, place(0, 5, 0), place(95, 0, 0)}, {quarter, place(1, 2, 3), place(98, 1, 3)}, {film.Frame{Turn: plain}, place(1, 2, 3), place(1, 2, 3)}, {film.Frame{Turn: plain, Shift: place(10, 20, -30)}, place(1, 2, 3), place(11, 22, -27)},
		{film.Frame{Turn: film.Turn{{0, 1, 0}, {0, 0, 1}, {1, 0, 0}}}, place(1, 2, 3), place(2, 3, 1)}, {film.Frame{Turn: film.Turn{{0, 0, 1}, {1, 0, 0}, {0, 1, 0}}, Shift: place(5, 5, 5)}, place(1, 2, 3), place(8, 6, 7)}, {film.Frame{Turn: film.Turn{{0, 0, -1}, {0, -1, 0}, {-1, 0, 0}}}, place(1, 2, 3), place(-3, -2, -1)},
		// A place that is carried may lie far outside.
		{film.Frame{Turn: plain, Shift: place(most, -most, most)}, place(film.MaxPlace, -film.MaxPlace, film.MaxPlace), place(50000, -50000, 50000)}, {film.Frame{Turn: film.Turn{{-1, 0, 0}, {0, -1, 0}, {0, 0, 1}}, Shift: place(-most, most, -most)}, place(film.MaxPlace, -film.MaxPlace, -film.MaxPlace), place(-50000, 50000, -50000)},
	} {
		q, e := film.Carried(x.f, x.p)
		wantOK(t, fmt.Sprintf("Carried of %v by %v", x.p, x.f), q, e, x.q)
	}
}

func TestFramed(t *testing.T) {
	far := film.MaxPlace
	for _, x := range []struct {
		before, after []film.Mark
		tolerance     int
		framed        framed
	}{
		{earlier(), later(), 0, framed{quarter, []int{0, 1, 2}, 2}}, {earlier(), later(), 1, framed{quarter, []int{0, 1, 2}, 2}}, {earlier(), later(), 2, framed{quarter, []int{0, 1, 2, 3}, 2}},
		// One mark is carried by each turn; the first one is taken.
		{named(place(1, 2, 3)), named(place(9, 9, 9)), 0, framed{film.Frame{Turn: plain, Shift: place(8, 7, 6)}, []int{0}, 1}}, {named(place(0, 0, 0)), named(place(0, 0, 0)), film.MaxTolerance, framed{film.Frame{Turn: plain}, []int{0}, 1}},
		// Two marks that did not turn, and that turned around.
		{named(place(0, 0, 0), place(0, 0, 4)), named(place(5, 5, 5), place(5, 5, 9)), 0, framed{film.Frame{Turn: plain, Shift: place(5, 5, 5)}, []int{0, 1}, 2}}, {named(place(0, 0, 0), place(0, 0, 4)), named(place(5, 5, 5), place(5, 5, 1)), 0, framed{film.Frame{Turn: film.Turn{{1, 0, 0}, {0, -1, 0}, {0, 0, -1}}, Shift: place(5, 5, 5)}, []int{0, 1}, 2}}, {named(place(0, 0, 0), place(1, 2, 3)), named(place(0, 0, 0), place(1, 2, 3)), 0, framed{film.Frame{Turn: plain}, []int{0, 1}, 1}}, {named(place(0, 0, 0), place(1, 2, 3)), named(place(0, 0, 0), place(-1, -2, 3)), 0, framed{film.Frame{Turn: film.Turn{{-1, 0, 0}, {0, -1, 0}, {0, 0, 1}}}, []int{0, 1}, 1}},
		// Within a tolerance several marks of one turn can be carried exactly: the first one counts, but more marks count more.
		{named(place(0, 0, 0), place(10, 0, 0)), named(place(0, 0, 0), place(11, 0, 0)), 0, framed{film.Frame{Turn: plain}, []int{0}, 1}}, {named(place(0, 0, 0), place(10, 0, 0)), named(place(0, 0, 0), place(11, 0, 0)), 1, framed{film.Frame{Turn: plain}, []int{0, 1}, 2}},
		{named(place(0, 0, 0), place(10, 20, 30), place(20, 0, 5)), named(place(0, 0, 0), place(11, 20, 30), place(22, 0, 5)), 1, framed{film.Frame{Turn: plain, Shift: place(1, 0, 0)}, []int{0, 1, 2}, 1}},
		{named(place(3, 3, 3), place(10, 20, 30), place(20, 0, 5)), named(place(-50, 7, 7), place(11, 20, 30), place(21, 0, 5)), 0, framed{film.Frame{Turn: plain, Shift: place(1, 0, 0)}, []int{1, 2}, 1}},
		{named(place(0, 0, 0), place(9, 0, 0), place(0, 9, 0), place(0, 0, 9)), named(place(1, 1, 1), place(9, 0, 0), place(0, 9, 1), place(0, 1, 9)), 1, framed{film.Frame{Turn: plain, Shift: place(1, 1, 1)}, []int{0, 1, 2, 3}, 2}},
		{named(place(far, far, far), place(-far, -far, -far)), named(place(-far, -far, -far), place(far, far, far)), film.MaxTolerance, framed{film.Frame{Turn: film.Turn{{0, 0, -1}, {0, -1, 0}, {-1, 0, 0}}}, []int{0, 1}, 2}},
		{named(place(far, far, far)), named(place(-far, -far, -far)), 0, framed{film.Frame{Turn: plain, Shift: place(-2*far, -2*far, -2*far)}, []int{0}, 1}},
	} {
		f, marks, second, e := film.Framed(x.before, x.after, x.tolerance)
		wantOK(t, fmt.Sprintf("Framed of %v and %v within %d", x.before, x.after, x.tolerance), framed{f, marks, second}, e, x.framed)
		want(t, "CheckFrame of the certificate", film.CheckFrame(x.before, x.after, f, x.tolerance, marks), api.OK)
	}
}

func TestCheckFrame(t *testing.T) {
	for _, x := range []struct {
		tolerance int
		marks     []int
		e         api.Errno
	}{
		{0, []int{0, 1, 2}, api.OK}, {0, nil, api.OK}, {0, []int{}, api.OK}, {0, []int{2}, api.OK}, {0, []int{0, 2}, api.OK}, {2, []int{0, 1, 2, 3}, api.OK}, {2, []int{3}, api.OK},
		{1, []int{0, 1, 2, 3}, api.ErrProof}, {1, []int{3}, api.ErrProof}, {0, []int{1, 3}, api.ErrProof},
	} {
		want(t, fmt.Sprintf("CheckFrame of %v within %d", x.marks, x.tolerance), film.CheckFrame(earlier(), later(), quarter, x.tolerance, x.marks), x.e)
	}
	want(t, "CheckFrame of another frame", film.CheckFrame(earlier(), later(), film.Frame{Turn: plain}, 0, []int{0}), api.ErrProof)
	// Any part may be the one that is too far away, on either side.
	for _, moved := range []api.Vector{place(2, 0, 0), place(-2, 0, 0), place(0, 2, 0), place(0, -2, 0), place(0, 0, 2), place(0, 0, -2)} {
		l := named(moved)
		want(t, fmt.Sprintf("CheckFrame of %v within 2", moved), film.CheckFrame(named(place(0, 0, 0)), l, film.Frame{Turn: plain}, 2, []int{0}), api.OK)
		want(t, fmt.Sprintf("CheckFrame of %v within 1", moved), film.CheckFrame(named(place(0, 0, 0)), l, film.Frame{Turn: plain}, 1, []int{0}), api.ErrProof)
	}
}

func TestIntrusions(t *testing.T) {
	still := film.Box{X: to(-1, 1), Y: to(-1, 1), Z: to(-1, 1)}
	l, e := film.Intrusions(earlier(), later(), quarter, 1)
	wantOK(t, "Intrusions", l, e, []film.Box{still, still, still, {X: to(-1, 1), Y: to(-1, 1), Z: to(-3, -1)}})
	l, e = film.Intrusions(earlier(), later(), quarter, 0)
	wantOK(t, "Intrusions within 0", l, e, []film.Box{{}, {}, {}, {Z: to(-2, -2)}})
	l, e = film.Intrusions(named(place(1, 2, 3)), named(place(50, 60, 70)), film.Frame{Turn: plain, Shift: place(5, -6, 7)}, film.MaxTolerance)
	wantOK(t, "Intrusions within much", l, e, []film.Box{{X: to(44-1000, 44+1000), Y: to(64-1000, 64+1000), Z: to(60-1000, 60+1000)}})
	far := film.MaxPlace
	l, e = film.Intrusions(named(place(far, far, -far)), named(place(-far, -far, far)), film.Frame{Turn: plain, Shift: place(4*far, 4*far, -4*far)}, 1)
	wantOK(t, "Intrusions at the limits", l, e, []film.Box{{X: to(-60001, -59999), Y: to(-60001, -59999), Z: to(59999, 60001)}})
}

// wantSurveyErrors checks the error that all functions of two surveys return.
func wantSurveyErrors(t *testing.T, before, after []film.Mark, f film.Frame, tolerance int, wanted api.Errno) {
	t.Helper()
	what := fmt.Sprintf(" of %v and %v", before, after)
	got, marks, second, e := film.Framed(before, after, tolerance)
	wantError(t, "Framed"+what, framed{got, marks, second}, e, wanted)
	for _, marks := range [][]int{{-1, 5, 2}, nil} {
		want(t, "CheckFrame"+what, film.CheckFrame(before, after, f, tolerance, marks), wanted)
	}
	l, e := film.Intrusions(before, after, f, tolerance)
	wantError(t, "Intrusions"+what, l, e, wanted)
}

func TestSurveyErrors(t *testing.T) {
	good := earlier()
	for _, b := range badSurveys() {
		what := fmt.Sprintf(" of %v", b.x)
		want(t, "CheckSurvey"+what, film.CheckSurvey(b.x), b.e)
		s, e := film.Print(b.x)
		wantError(t, "Print"+what, s, e, b.e)
		wantSurveyErrors(t, b.x, nil, film.Frame{}, -1, b.e)
		wantSurveyErrors(t, b.x, b.x, quarter, 1, b.e)
		wantSurveyErrors(t, good, b.x, film.Frame{}, -1, b.e)
		wantSurveyErrors(t, good, b.x, quarter, 1, b.e)
	}
	swapped := []film.Mark{good[0], good[2], good[1], good[3]}
	for _, l := range [][]film.Mark{swapped, good[:3], good[1:], append(earlier(), mark("e", 0, 0, 0)), {mark("A", 0, 0, 0), good[1], good[2], good[3]}, {good[0], good[1], good[2], mark("dd", 0, 0, 3)}} {
		wantSurveyErrors(t, good, l, film.Frame{}, -1, api.ErrShape)
		wantSurveyErrors(t, l, good, quarter, 1, api.ErrShape)
	}
}

func TestFrameErrors(t *testing.T) {
	for _, b := range badFrames() {
		what := fmt.Sprintf(" of %v", b.x)
		for _, p := range []api.Vector{place(far[0], 0, 0), place(1, 2, 3)} {
			q, e := film.Carried(b.x, p)
			wantError(t, "Carried"+what, q, e, b.e)
		}
		for _, tolerance := range []int{-1, 0} {
			want(t, "CheckFrame"+what, film.CheckFrame(earlier(), later(), b.x, tolerance, []int{-1}), b.e)
			l, e := film.Intrusions(earlier(), later(), b.x, tolerance)
			wantError(t, "Intrusions"+what, l, e, b.e)
		}
	}
	for _, p := range badVectors(film.MaxPlace) {
		q, e := film.Carried(quarter, p)
		wantError(t, fmt.Sprintf("Carried of %v", p), q, e, api.ErrRange)
	}
	for _, tolerance := range outside(0, film.MaxTolerance) {
		wantSurveyErrors(t, earlier(), later(), quarter, tolerance, api.ErrRange)
	}
}

func TestErrorsOfMarks(t *testing.T) {
	bad := []wrong[[]int]{{[]int{1, 0, 4}, api.ErrUnknown}, {[]int{1, 1}, api.ErrOrder}, {[]int{3, 2}, api.ErrOrder}, {[]int{0, 2, 2}, api.ErrOrder}, {[]int{0, 2, 1, 3}, api.ErrOrder}, {[]int{0, 0}, api.ErrOrder}}
	for _, n := range outside(0, 3) {
		bad = append(bad, wrong[[]int]{[]int{n}, api.ErrUnknown}, wrong[[]int]{[]int{3, n}, api.ErrUnknown}, wrong[[]int]{[]int{2, 1, n}, api.ErrUnknown})
	}
	for _, b := range bad {
		want(t, fmt.Sprintf("CheckFrame of the marks %v", b.x), film.CheckFrame(earlier(), later(), quarter, 0, b.x), b.e)
	}
}

// parts returns the parts of a place.
func parts(p api.Vector) [3]int { return [3]int{p.X, p.Y, p.Z} }

// carriedBy carries a place by a turn and a shift.
func carriedBy(turn film.Turn, shift, p api.Vector) api.Vector {
	from, l := parts(p), parts(shift)
	for i, row := range turn {
		for j, x := range row {
			l[i] += x * from[j]
		}
	}
	return place(l[0], l[1], l[2])
}

// agreeing returns the indices of the marks that agree with a frame, by the definition.
func agreeing(before, after []film.Mark, f film.Frame, tolerance int) []int {
	var l []int
	for i, m := range before {
		a, b := parts(after[i].At), parts(carriedBy(f.Turn, f.Shift, m.At))
		if max(a[0]-b[0], b[0]-a[0], a[1]-b[1], b[1]-a[1], a[2]-b[2], b[2]-a[2]) <= tolerance {
			l = append(l, i)
		}
	}
	return l
}

// allFrames returns all frames of two surveys: P5.3 says that Turns has all turns in their order.
func allFrames(before, after []film.Mark) []film.Frame {
	var l []film.Frame
	for _, x := range film.Turns() {
		for i, m := range before {
			at := carriedBy(x, api.Vector{}, m.At)
			l = append(l, film.Frame{Turn: x, Shift: place(after[i].At.X-at.X, after[i].At.Y-at.Y, after[i].At.Z-at.Z)})
		}
	}
	return l
}

// commonFrame returns the results of Framed, by the definition.
func commonFrame(before, after []film.Mark, tolerance int) framed {
	frames := allFrames(before, after)
	counts := make([]int, len(frames))
	for i, f := range frames {
		counts[i] = len(agreeing(before, after, f, tolerance))
	}
	best := frames[slices.Index(counts, slices.Max(counts))]
	x := framed{frame: best, marks: agreeing(before, after, best, tolerance)}
	for i, f := range frames {
		if f.Turn != best.Turn {
			x.second = max(x.second, counts[i])
		}
	}
	return x
}

// someSurveys returns a survey, and one that was carried by a frame, but for some of its marks.
func someSurveys(r *rand.Rand, most, tolerance int) ([]film.Mark, []film.Mark, film.Frame) {
	f := film.Frame{Turn: one(r, film.Turns()), Shift: somePlace(r, most)}
	var before, after []api.Vector
	for range between(r, 1, 6) {
		p := somePlace(r, most)
		q := carriedBy(f.Turn, f.Shift, p)
		if r.IntN(3) == 0 {
			q = place(q.X+between(r, -tolerance, tolerance), q.Y+between(r, -tolerance, tolerance), q.Z+between(r, -tolerance, tolerance))
		}
		if r.IntN(5) == 0 {
			q = somePlace(r, most)
		}
		before, after = append(before, p), append(after, q)
	}
	return named(before...), named(after...), f
}

func TestFramedByTheDefinition(t *testing.T) {
	r := dice(8)
	turned, second := 0, 0
	for range 250 {
		tolerance := r.IntN(4)
		before, after, _ := someSurveys(r, between(r, 1, 12), tolerance)
		wanted := commonFrame(before, after, tolerance)
		f, marks, count, e := film.Framed(before, after, tolerance)
		wantOK(t, fmt.Sprintf("Framed of %v and %v within %d", before, after, tolerance), framed{f, marks, count}, e, wanted)
		if f.Turn != plain {
			turned++
		}
		if count > 1 {
			second++
		}
		for n := range 1 << len(before) {
			var l []int
			wanted := api.OK
			for i := range before {
				if n>>i&1 == 1 {
					l = append(l, i)
					if !slices.Contains(marks, i) {
						wanted = api.ErrProof
					}
				}
			}
			want(t, fmt.Sprintf("CheckFrame of %v", l), film.CheckFrame(before, after, f, tolerance, l), wanted)
		}
	}
	want(t, "whether there were many", turned > 50 && second > 50, true)
}

func TestIntrusionsByTheDefinition(t *testing.T) {
	r := dice(9)
	for range 1000 {
		tolerance := r.IntN(4)
		before, after, f := someSurveys(r, 50, 9)
		var wanted []film.Box
		for i, m := range before {
			a, b := after[i].At, carriedBy(f.Turn, f.Shift, m.At)
			wanted = append(wanted, film.Box{X: to(a.X-b.X-tolerance, a.X-b.X+tolerance), Y: to(a.Y-b.Y-tolerance, a.Y-b.Y+tolerance), Z: to(a.Z-b.Z-tolerance, a.Z-b.Z+tolerance)})
			q, e := film.Carried(f, m.At)
			wantOK(t, fmt.Sprintf("Carried of %v by %v", m.At, f), q, e, b)
		}
		l, e := film.Intrusions(before, after, f, tolerance)
		wantOK(t, fmt.Sprintf("Intrusions of %v and %v by %v within %d", before, after, f, tolerance), l, e, wanted)
	}
}
