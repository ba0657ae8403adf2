package dummy

import (
	"strconv"

	"crumple/api"
	"crumple/lines"
	"crumple/lists"
)

// partWord is the first word of each line of a string of parts, noParent the word in place of the root's parent.
const (
	partWord = "part"
	noParent = "-"
)

// Print returns the string of parts.
func Print(l []Part) (string, api.Errno) {
	if e := CheckParts(l); e != api.OK {
		return "", e
	}
	text := ""
	for _, p := range l {
		text += p.line()
	}
	return text, api.OK
}

// line returns the line of a part.
func (p Part) line() string {
	parent := p.Parent
	if parent == "" {
		parent = noParent
	}
	numbers := []int{p.Mass, p.Joint.X, p.Joint.Y, p.Joint.Z}
	for _, x := range p.Corridor {
		numbers = append(numbers, x.Low, x.High)
	}
	words := append([]string{partWord, p.Name, parent}, lists.Mapped(numbers, strconv.Itoa)...)
	return lines.Line(words...)
}

// Parse returns the parts of a string, and the index of the first line that is wrong.
func Parse(s string) ([]Part, int, api.Errno) {
	return lines.Checked(s, readPart, CheckParts)
}

// readPart takes the words of a line.
func readPart(w *lines.Words) Part {
	word, integer := w.Word, w.Integer
	w.Key(partWord)
	var p Part
	p.Name = word()
	p.Parent = word()
	if p.Parent == noParent {
		p.Parent = ""
	}
	p.Mass = integer()
	p.Joint.X = integer()
	p.Joint.Y = integer()
	p.Joint.Z = integer()
	for w.More() {
		low := integer()
		high := integer()
		p.Corridor = append(p.Corridor, api.Interval{Low: low, High: high})
	}
	return p
}
