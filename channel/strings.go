package channel

import (
	"strconv"

	"crumple/api"
	"crumple/check"
	"crumple/lines"
)

// sensorWord is the first word of each line of a string of sensors.
const sensorWord = "sensor"

// checkSensors returns the first error of sensors, or OK.
func checkSensors(l []Sensor) api.Errno {
	names := check.Names{}
	return check.First(
		check.When(len(l) > MaxMany, api.ErrMany),
		check.Each(l, func(s Sensor) api.Errno {
			return check.First(CheckSensor(s), names.Take(s.Name))
		}),
	)
}

// Print returns the string of sensors.
func Print(l []Sensor) (string, api.Errno) {
	if e := checkSensors(l); e != api.OK {
		return "", e
	}
	text := ""
	for _, s := range l {
		text += lines.Line(sensorWord, s.Name, strconv.Itoa(s.Scale), strconv.Itoa(s.Sense.Low), strconv.Itoa(s.Sense.High))
	}
	return text, api.OK
}

// Parse returns the sensors of a string, and the index of the first line that is wrong.
func Parse(s string) ([]Sensor, int, api.Errno) {
	return lines.Checked(s, readSensor, checkSensors)
}

// readSensor takes the words of a line.
func readSensor(w *lines.Words) Sensor {
	word, number := w.Word, w.Natural
	w.Key(sensorWord)
	var s Sensor
	s.Name = word()
	s.Scale = number()
	s.Sense.Low = number()
	s.Sense.High = number()
	return s
}
