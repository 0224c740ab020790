package sample

import (
	"slices"

	"continuo/api"
	"continuo/layout"
)

// Peak returns each channel's greatest sample, taken above 0.
func Peak(b api.Block) ([]int, api.Errno) {
	return ofChannels(b, func(channel []int) int {
		peak := 0
		for _, n := range channel {
			peak = max(peak, n, -n)
		}
		return peak
	})
}

// Power returns the sum of each channel's squares, rounded by the frames.
func Power(b api.Block) ([]int, api.Errno) {
	return ofChannels(b, func(channel []int) int {
		sum := 0
		for _, n := range channel {
			sum += n * n
		}
		return rounded(sum, max(len(channel), 1))
	})
}

// ofChannels returns what measure tells of each channel.
func ofChannels(b api.Block, measure func(channel []int) int) ([]int, api.Errno) {
	return fitted(func() []int {
		must(layout.ValidBlock(b), api.ErrInvalid)
		var out []int
		for _, channel := range b {
			out = append(out, measure(channel))
		}
		return out
	})
}

// Cut returns the frames from one up to before another one.
func Cut(b api.Block, from, to int) (api.Block, api.Errno) {
	return fitted(func() api.Block {
		must(layout.ValidBlock(b), api.ErrInvalid)
		must(from >= 0 && from <= to && to <= len(b[0]), api.ErrRange)
		out, _ := layout.Silent(len(b), to-from)
		for i, channel := range b {
			copy(out[i], channel[from:to])
		}
		return out
	})
}

// Join puts blocks one behind the other.
func Join(l []api.Block) (api.Block, api.Errno) {
	return fitted(func() api.Block {
		g := joined(l)
		out, _ := layout.Silent(g.channels, g.frames)
		at := 0
		for _, b := range l {
			for i, channel := range b {
				copy(out[i][at:], channel)
			}
			at += len(b[0])
		}
		return out
	})
}

// joined returns the grid of blocks one behind the other.
func joined(l []api.Block) grid {
	for _, b := range l {
		must(layout.ValidBlock(b), api.ErrInvalid)
	}
	must(len(l) > 0, api.ErrSize)
	out := grid{channels: len(l[0])}
	for _, b := range l {
		must(len(b) == out.channels, api.ErrSize)
		out.frames += len(b[0])
	}
	must(isFrames(out.frames), api.ErrLimit)
	return out
}

// Same reports whether two blocks are equal.
func Same(a, b api.Block) bool { return slices.EqualFunc(a, b, slices.Equal[[]int]) }
