// Package record has names, ratios and samples, records and rings, seals, frames and streams. See shared/doc/01-record.md.
package record

// Limits of rings, steps, frames, counters and records that are put together.
const (
	MaxRing    = 256
	MaxStep    = 16
	Values     = 8
	Size       = 30
	Mark       = 211
	MaxFrames  = 1024
	MaxCounter = 16777215
)

// maxDevice is the greatest number of a device: a frame has one byte for it.
const maxDevice = 255

// Ring is samples that are written one after the other, and again from the beginning on.
type Ring struct {
	Samples []float32
	Next    int
	Full    bool
}

// Extreme is the least and the greatest integer of samples, and where they are first.
type Extreme struct {
	Low   int
	High  int
	LowAt int
	At    int
}

// Frame is some samples of a device, with a counter.
type Frame struct {
	Device  int
	Counter int
	Length  int
	Samples [Values]float32
}
