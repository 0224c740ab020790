package sample

import (
	"iter"

	"continuo/api"
)

// grid is how many samples there are, each way.
type grid struct{ channels, frames int }

// spot is where a sample is in a block.
type spot struct{ channel, frame int }

func gridOf(b api.Block) grid { return grid{len(b), len(b[0])} }

// gridIn returns the grid that bytes fill, with so many bytes to a sample.
func gridIn(s string, channels, width int) grid {
	frames := len(s) / (channels * width)
	must(frames*channels*width == len(s) && isFrames(frames), api.ErrSize)
	return grid{channels, frames}
}

func isChannels(n int) bool { return n >= 1 && n <= api.MaxChannels }

func isFrames(n int) bool { return n >= 0 && n <= api.MaxFrames }

// spots goes frame by frame, in each over the channels in order.
func (g grid) spots() iter.Seq[spot] {
	return func(yield func(spot) bool) {
		for frame := range g.frames {
			for channel := range g.channels {
				if !yield(spot{channel, frame}) {
					return
				}
			}
		}
	}
}

// place returns how many samples stand in the bytes ahead of the one of a spot.
func (g grid) place(at spot, planar bool) int {
	if planar {
		return at.channel*g.frames + at.frame
	}
	return at.frame*g.channels + at.channel
}

// samples goes over a block's samples as spots goes over their spots.
func samples(b api.Block) iter.Seq2[spot, int] {
	return func(yield func(spot, int) bool) {
		for at := range gridOf(b).spots() {
			if !yield(at, b[at.channel][at.frame]) {
				return
			}
		}
	}
}
