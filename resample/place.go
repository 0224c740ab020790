package resample

import (
	"iter"
)

// phases is into how many phases the way from one frame to the next one is cut.
const phases = 256

// place is where a frame stands among those that come: behind whole ones, and so many parts of the next one.
type place struct {
	whole, rest int
	parts       int // of a whole frame
}

func (p place) phase() int { return phases * p.rest / p.parts }

// below yields the whole parts and the phases of the places below end, a step apart, and leaves p at the first place behind those that were taken.
func (p *place) below(end, step int) iter.Seq2[int, int] {
	return func(yield func(whole, phase int) bool) {
		for p.whole < end && yield(p.whole, p.phase()) {
			p.rest += step
			p.whole += p.rest / p.parts
			p.rest %= p.parts
		}
	}
}
