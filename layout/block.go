package layout

import (
	"continuo/api"
)

// ValidBlock reports whether a block is valid.
func ValidBlock(b api.Block) bool {
	if !isChannels(len(b)) || !isFrames(len(b[0])) {
		return false
	}
	for _, channel := range b {
		if len(channel) != len(b[0]) || !allWithin(channel, api.MaxSample) {
			return false
		}
	}
	return true
}

// Silent is the block of zeros.
func Silent(channels, frames int) (api.Block, api.Errno) {
	if !isChannels(channels) || !isFrames(frames) {
		return nil, api.ErrRange
	}
	return zeros(channels, frames), api.OK
}

func isChannels(n int) bool { return n >= 1 && n <= api.MaxChannels }

func isFrames(n int) bool { return n >= 0 && n <= api.MaxFrames }

// allWithin reports whether all numbers are from -most to most. No sign is turned: the least int has no opposite.
func allWithin(list []int, most int) bool {
	for _, n := range list {
		if n < -most || n > most {
			return false
		}
	}
	return true
}

// zeros returns so many rows of so many zeros, each in memory of its own.
func zeros(rows, columns int) [][]int {
	out := make([][]int, rows)
	for i := range out {
		out[i] = make([]int, columns)
	}
	return out
}
