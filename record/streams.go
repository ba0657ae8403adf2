package record

import (
	"strconv"
	"strings"

	"crumple/api"
)

// The first bytes of a stream, and the numbers of bytes before its samples and of one without samples.
const (
	magic  = "CRU1"
	header = len(magic) + 2
	least  = header + len(api.Key{})
)

// The first words of the lines of a string, and the most digits of an integer.
const (
	recordWord = "record"
	sampleWord = "sample"
	maxDigits  = 9
)

// words is the words of a line that are not yet taken.
type words struct {
	left []string
}

// withUnits returns bytes with those of the integers of samples after them.
func withUnits(s []byte, l []float32) []byte {
	for _, u := range units(l) {
		// The wraparound adds 65536 to an integer below 0.
		pair := uint16(u)
		s = append(s, byte(pair>>8), byte(pair))
	}
	return s
}

// readUnits returns the numbers whose integers are in bytes, two for each; they may be out of a sample's range.
func readUnits(s []byte) []float32 {
	var l []float32
	for i := 0; i+1 < len(s); i += 2 {
		pair := uint16(s[i])<<8 | uint16(s[i+1])
		l = append(l, sample(int(int16(pair))))
	}
	return l
}

// Pack returns the stream of samples.
func Pack(l []float32) ([]byte, api.Errno) {
	if e := CheckSamples(l); e != api.OK {
		return nil, e
	}
	s := append([]byte(magic), byte(len(l)>>8), byte(len(l)))
	s = withUnits(s, l)
	seal := sealed(api.Key{}, s)
	return append(s, seal[:]...), api.OK
}

// Unpack returns the samples of a stream.
func Unpack(s []byte) ([]float32, api.Errno) {
	if e := checkStream(s); e != api.OK {
		return nil, e
	}
	l := readUnits(s[header : header+2*counted(s)])
	if e := CheckSamples(l); e != api.OK {
		return nil, e
	}
	return l, api.OK
}

// checkStream returns the first error of a stream, but for those of its samples, or OK.
func checkStream(s []byte) api.Errno {
	switch {
	case len(s) > api.MaxStream:
		return api.ErrLong
	case len(s) < least:
		return api.ErrTorn
	case string(s[:len(magic)]) != magic:
		return api.ErrForm
	case len(s) != least+2*counted(s):
		return api.ErrShape
	case !isSealed(api.Key{}, s):
		return api.ErrCheck
	}
	return api.OK
}

// counted returns the number of samples that a stream states.
func counted(s []byte) int {
	return int(s[len(magic)])<<8 | int(s[len(magic)+1])
}

// Print returns the string of samples.
func Print(l []float32) (string, api.Errno) {
	if e := CheckSamples(l); e != api.OK {
		return "", e
	}
	text := printed(recordWord, len(l))
	for _, u := range units(l) {
		text += printed(sampleWord, u)
		if len(text) > api.MaxText {
			return "", api.ErrLong
		}
	}
	return text, api.OK
}

func printed(word string, number int) string {
	return word + " " + strconv.Itoa(number) + "\n"
}

// Parse returns the samples of a string, and the index of the first line that is wrong.
func Parse(s string) ([]float32, int, api.Errno) {
	if len(s) > api.MaxText {
		return nil, 0, api.ErrLong
	}
	if s == "" {
		return nil, 0, api.ErrSyntax
	}
	lines := split(s)
	var numbers []int
	for i, line := range lines {
		number, ok := lineNumber(line, i == 0)
		if !ok {
			return nil, i, api.ErrSyntax
		}
		numbers = append(numbers, number)
	}
	all := numbers[1:]
	if len(all) != numbers[0] {
		return nil, len(lines), api.ErrShape
	}
	e := firstError(all, func(u int) api.Errno { return within(u, -api.MaxUnit, api.MaxUnit) })
	if e != api.OK {
		return nil, len(lines), e
	}
	return samples(all), 0, api.OK
}

// split returns the lines of a string, each with its line feed, if it has one.
func split(s string) []string {
	lines := strings.SplitAfter(s, "\n")
	if last := len(lines) - 1; lines[last] == "" {
		return lines[:last]
	}
	return lines
}

// lineNumber returns the integer of a line: of the first one, or of a sample.
func lineNumber(line string, isFirst bool) (int, bool) {
	text, ended := strings.CutSuffix(line, "\n")
	w := words{left: strings.Split(text, " ")}
	if !ended || len(w.left) != 2 {
		return 0, false
	}
	take := w.next
	word := take()
	digits := take()
	switch {
	case isFirst && word == recordWord:
		return natural(digits)
	case !isFirst && word == sampleWord:
		return signed(digits)
	}
	return 0, false
}

// next takes the next word; there is none after the last one.
func (w *words) next() string {
	if len(w.left) == 0 {
		return ""
	}
	word := w.left[0]
	w.left = w.left[1:]
	return word
}

// signed returns the integer of digits that may have a sign, but not before 0.
func signed(digits string) (int, bool) {
	digits, negative := strings.CutPrefix(digits, "-")
	number, ok := natural(digits)
	if negative {
		return -number, ok && number != 0
	}
	return number, ok
}

// natural returns the integer of digits without a sign.
func natural(digits string) (int, bool) {
	if digits == "" || len(digits) > maxDigits || digits != "0" && digits[0] == '0' {
		return 0, false
	}
	number := 0
	for _, c := range digits {
		if !isDigit(c) {
			return 0, false
		}
		number = 10*number + int(c-'0')
	}
	return number, true
}
