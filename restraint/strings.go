package restraint

import (
	"strconv"

	"crumple/api"
	"crumple/lines"
	"crumple/lists"
)

// The first words of the lines.
const (
	massesWord  = "masses"
	bagWord     = "bag"
	frontWord   = "front"
	beltWord    = "belt"
	cushionWord = "cushion"
)

// words is the first words of the lines, in their order.
var words = [...]string{massesWord, bagWord, frontWord, beltWord, cushionWord}

// single is the number of lines, from the first one on, that have one pair of integers; all others have one for each point of a spring.
const single = 2

// pairs is the pairs of integers of the lines, by their first words.
type pairs map[string][]api.Point

// pairs returns the pairs of the lines of a model.
func (m Model) pairs() pairs {
	return pairs{
		massesWord:  {{X: m.Car, Y: m.Occupant}},
		bagWord:     {{X: m.Gap, Y: m.Steps}},
		frontWord:   m.Front,
		beltWord:    m.Belt,
		cushionWord: m.Bag,
	}
}

// modelOf returns the model of the pairs of all lines.
func modelOf(rows [][]api.Point) Model {
	p := pairs{}
	for i, row := range rows {
		p[words[i]] = row
	}
	masses, bag := p[massesWord][0], p[bagWord][0]
	return Model{
		Car:      masses.X,
		Occupant: masses.Y,
		Front:    p[frontWord],
		Belt:     p[beltWord],
		Bag:      p[cushionWord],
		Gap:      bag.X,
		Steps:    bag.Y,
	}
}

// Print returns the string of a model.
func Print(m Model) (string, api.Errno) {
	if e := CheckModel(m); e != api.OK {
		return "", e
	}
	text := ""
	all := m.pairs()
	for _, word := range words {
		var numbers []int
		for _, p := range all[word] {
			numbers = append(numbers, p.X, p.Y)
		}
		line := append([]string{word}, lists.Mapped(numbers, strconv.Itoa)...)
		text += lines.Line(line...)
	}
	return text, api.OK
}

// Parse returns the model of a string, and the index of the first line that is wrong.
func Parse(s string) (Model, int, api.Errno) {
	rows, at, e := lines.Checked(s, readPairs, checkRows)
	if e != api.OK {
		return Model{}, at, e
	}
	return modelOf(rows), 0, api.OK
}

// readPairs takes the words of a line.
func readPairs(w *lines.Words) []api.Point {
	if w.At() >= len(words) {
		// A further line is wrong, since it has words that nobody takes.
		return nil
	}
	number := w.Natural
	w.Key(words[w.At()])
	if w.At() < single {
		return []api.Point{readPair(number)}
	}
	var row []api.Point
	for w.More() {
		row = append(row, readPair(number))
	}
	return row
}

// readPair takes two integers.
func readPair(number func() int) api.Point {
	x := number()
	y := number()
	return api.Point{X: x, Y: y}
}

// checkRows returns ErrSyntax if there are too few lines, or the first error of the model, or OK.
func checkRows(rows [][]api.Point) api.Errno {
	if len(rows) < len(words) {
		return api.ErrSyntax
	}
	return CheckModel(modelOf(rows))
}
