package injury

import (
	"strconv"

	"crumple/api"
	"crumple/lines"
)

// stepWord is the first word of each line of a risk table.
const stepWord = "step"

// maxDigits is the most digits of an integer of a risk table: those of MaxSize.
const maxDigits = 13

// Print returns the string of a risk table.
func Print(table []Step) (string, api.Errno) {
	if e := checkTable(table); e != api.OK {
		return "", e
	}
	text := ""
	for _, s := range table {
		text += lines.Line(stepWord, strconv.Itoa(s.From.Num), strconv.Itoa(s.From.Den), strconv.Itoa(s.Risk))
	}
	return text, api.OK
}

// Parse returns the risk table with a string, or the index of the first line that is wrong.
func Parse(s string) ([]Step, int, api.Errno) {
	return lines.Checked(s, readStep, checkTable)
}

// readStep takes the words of a line.
func readStep(w *lines.Words) Step {
	digits := w.Digits
	w.Key(stepWord)
	var s Step
	s.From.Num = digits(maxDigits)
	s.From.Den = digits(maxDigits)
	s.Risk = digits(maxDigits)
	return s
}
