package film

import (
	"strconv"

	"crumple/api"
	"crumple/lines"
)

// markWord is the first word of each line of a survey.
const markWord = "mark"

// Print returns the string of a survey.
func Print(l []Mark) (string, api.Errno) {
	if e := CheckSurvey(l); e != api.OK {
		return "", e
	}
	text := ""
	for _, m := range l {
		text += lines.Line(markWord, m.Name, strconv.Itoa(m.At.X), strconv.Itoa(m.At.Y), strconv.Itoa(m.At.Z))
	}
	return text, api.OK
}

// Parse returns the survey of a string, and the index of the first line that is wrong.
func Parse(s string) ([]Mark, int, api.Errno) {
	return lines.Checked(s, readMark, CheckSurvey)
}

// readMark takes the words of a line.
func readMark(w *lines.Words) Mark {
	integer := w.Integer
	w.Key(markWord)
	var m Mark
	m.Name = w.Word()
	for _, a := range axes() {
		*a.part(&m.At) = integer()
	}
	return m
}
