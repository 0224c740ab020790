package volume

import (
	"iter"

	"continuo/api"
)

// ramp is the way from a gain to another one over so many frames, at one of them or at its end.
type ramp struct{ from, to, frames, at int }

// steady is a ramp that has come to its end.
func steady(gain int) ramp { return ramp{to: gain} }

func rampOf(from, to, frames int) ramp {
	mustBeGains(from, to)
	mustBeTime(frames)
	return ramp{from: from, to: to, frames: frames}
}

// now is the gain at the next frame.
func (r ramp) now() int {
	if r.left() == 0 {
		return r.to
	}
	return r.from + rounded((r.to-r.from)*r.at, r.frames)
}

func (r ramp) left() int { return r.frames - r.at }

func (r *ramp) goOn(frames int) { r.at += min(frames, r.left()) }

// gains yields the gains of the next frames, so many, by their numbers from 0; the ramp itself stays where it is.
func (r ramp) gains(frames int) iter.Seq2[int, int] {
	return func(yield func(i, gain int) bool) {
		next := r
		for i := range frames {
			if !yield(i, next.now()) {
				return
			}
			next.goOn(1)
		}
	}
}

// Ramp is a ramp for all channels over the first frames of a block.
func Ramp(from, to, frames int, b api.Block) (api.Block, api.Errno) {
	return fitted(func() api.Block {
		mustBeBlocks(b)
		r := rampOf(from, to, frames)
		return allScaled(b, r.gains(len(b[0])))
	})
}

// Steps returns a ramp's gains.
func Steps(from, to, frames int) ([]int, api.Errno) {
	return fitted(func() []int {
		r := rampOf(from, to, frames)
		must(frames <= api.MaxFrames, api.ErrLimit)
		var out []int
		for _, gain := range r.gains(frames) {
			out = append(out, gain)
		}
		return out
	})
}

func mustBeTime(frames int) { must(frames >= 0 && frames <= api.MaxTime, api.ErrRange) }
