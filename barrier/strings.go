package barrier

import (
	"strconv"

	"crumple/api"
	"crumple/check"
	"crumple/lines"
	"crumple/lists"
)

// words is the first words of the lines; the last one is that of all further lines.
var words = [...]string{"wall", "friction", "brake", "pull"}

// fewest is the lines that each string of a tow has.
const fewest = 3

// form is how many integers a line has, and where they belong.
type form struct {
	count int
	store func(*Tow, []int)
}

// forms returns the forms of the lines, in the order of their words.
func forms() [fewest + 1]form {
	return [...]form{
		{1, func(t *Tow, l []int) { t.Wall = l[0] }},
		{2, func(t *Tow, l []int) { t.Friction = api.Interval{Low: l[0], High: l[1]} }},
		{2, func(t *Tow, l []int) { t.Brake = api.Interval{Low: l[0], High: l[1]} }},
		{1, func(t *Tow, l []int) { t.Pull = append(t.Pull, l[0]) }},
	}
}

// kind returns the index of a line's word, and of its form.
func kind(line int) int {
	return min(line, fewest)
}

// rows returns the integers of the lines of a tow.
func (t Tow) rows() [][]int {
	rows := [][]int{{t.Wall}, {t.Friction.Low, t.Friction.High}, {t.Brake.Low, t.Brake.High}}
	return append(rows, lists.Mapped(t.Pull, func(pull int) []int { return []int{pull} })...)
}

// stored returns the tow of the integers of its lines.
func stored(rows [][]int) Tow {
	var t Tow
	for i, row := range rows {
		forms()[kind(i)].store(&t, row)
	}
	return t
}

// Print returns the string of a tow.
func Print(t Tow) (string, api.Errno) {
	if e := CheckTow(t); e != api.OK {
		return "", e
	}
	text := ""
	for i, row := range t.rows() {
		line := append([]string{words[kind(i)]}, lists.Mapped(row, strconv.Itoa)...)
		text += lines.Line(line...)
	}
	return text, api.OK
}

// Parse returns the tow of a string, and the index of the first line that is wrong.
func Parse(s string) (Tow, int, api.Errno) {
	rows, at, e := lines.Checked(s, readRow, checkRows)
	return stored(rows), at, e
}

// readRow takes the words of a line.
func readRow(w *lines.Words) []int {
	k := kind(w.At())
	take := w.Natural
	w.Key(words[k])
	var row []int
	for range forms()[k].count {
		row = append(row, take())
	}
	return row
}

// checkRows returns ErrSyntax if there are too few lines, or the first error of the tow, or OK.
func checkRows(rows [][]int) api.Errno {
	return check.First(check.When(len(rows) < fewest, api.ErrSyntax), CheckTow(stored(rows)))
}
