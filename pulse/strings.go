package pulse

import (
	"strconv"

	"crumple/api"
	"crumple/lines"
)

// words is the first words of the lines; all lines of a setting have the same one.
var words = [...]string{"step"}

// stepLine is the index of the first word of a step's line.
const stepLine = 0

// Print returns the string of a setting.
func Print(l []Step) (string, api.Errno) {
	if e := CheckSetting(l); e != api.OK {
		return "", e
	}
	text := ""
	for _, s := range l {
		text += lines.Line(words[stepLine], strconv.Itoa(s.From), strconv.Itoa(s.Valve))
	}
	return text, api.OK
}

// Parse returns the setting of a string, and the index of the first line that is wrong.
func Parse(s string) ([]Step, int, api.Errno) {
	return lines.Checked(s, readStep, CheckSetting)
}

// readStep takes the words of a line.
func readStep(w *lines.Words) Step {
	number := w.Natural
	w.Key(words[stepLine])
	var s Step
	s.From = number()
	s.Valve = number()
	return s
}
