package sample

import (
	"continuo/api"
	"continuo/layout"
)

// rounding makes the level of a channel's next sample.
type rounding func(channel, sample int) int

// Encode writes a block.
func Encode(encoding int, planar bool, b api.Block) (string, api.Errno) {
	return fitted(func() string {
		must(layout.ValidBlock(b), api.ErrInvalid)
		c := coderOf(encoding)
		return written(c, planar, b, func(_, sample int) int { return levelOf(c, sample) })
	})
}

// written writes a block of levels that are made frame by frame, in whichever order they stand in the bytes.
func written(c coder, planar bool, b api.Block, level rounding) string {
	g, w := gridOf(b), width(c)
	out := make([]byte, g.channels*g.frames*w)
	for at, n := range samples(b) {
		c.put(out[g.place(at, planar)*w:], level(at.channel, n))
	}
	return string(out)
}

// Decode reads a block.
func Decode(encoding int, planar bool, channels int, s string) (api.Block, api.Errno) {
	return fitted(func() api.Block {
		c := coderOf(encoding)
		must(isChannels(channels), api.ErrRange)
		g, w := gridIn(s, channels, width(c)), width(c)
		out, _ := layout.Silent(g.channels, g.frames)
		for at := range g.spots() {
			// The lowest level that bytes can tell is none: it counts as the one above it.
			level := bounded(c.get(s[g.place(at, planar)*w:]), top(c.bits()))
			out[at.channel][at.frame] = sampleOf(c, level)
		}
		return out
	})
}

// Turn brings bytes from interleaved to planar, or back.
func Turn(s string, encoding, channels int, planar bool) (string, api.Errno) {
	return fitted(func() string {
		c := coderOf(encoding)
		must(isChannels(channels), api.ErrRange)
		g, w := gridIn(s, channels, width(c)), width(c)
		out := make([]byte, len(s))
		for at := range g.spots() {
			from, to := g.place(at, !planar)*w, g.place(at, planar)*w
			copy(out[to:], s[from:from+w])
		}
		return string(out)
	})
}
