package volume

import (
	"iter"

	"continuo/api"
)

const (
	million     = 1000000 // the third power of 100 percent
	mostPercent = 200
)

// Apply is one gain for all.
func Apply(gain int, b api.Block) (api.Block, api.Errno) {
	return fitted(func() api.Block {
		mustBeBlocks(b)
		mustBeGains(gain)
		return allScaled(b, steady(gain).gains(len(b[0])))
	})
}

// allScaled returns a block, all channels with the same gains.
func allScaled(b api.Block, gains iter.Seq2[int, int]) api.Block {
	var out api.Block
	for _, samples := range b {
		out = append(out, scaled(samples, gains))
	}
	return out
}

// scaled returns samples, each with the gain at its frame.
func scaled(samples []int, gains iter.Seq2[int, int]) []int {
	out := make([]int, len(samples))
	for i, gain := range gains {
		out[i] = bounded(rounded(samples[i]*gain, api.One), api.MaxSample)
	}
	return out
}

// Chain is several gains in one.
func Chain(gains []int) (int, api.Errno) {
	return fitted(func() int {
		mustBeGains(gains...)
		all := api.One
		for _, gain := range gains {
			all = bounded(rounded(all*gain, api.One), api.MaxGain)
		}
		return all
	})
}

// Cubic is the gain of a percentage.
func Cubic(n int) (int, api.Errno) {
	return fitted(func() int {
		must(n >= 0 && n <= mostPercent, api.ErrRange)
		return cubic(n)
	})
}

func cubic(n int) int { return rounded(n*n*n*api.One, million) }

// Percent is the least percentage whose Cubic is at least a gain.
func Percent(gain int) (int, api.Errno) {
	return fitted(func() int {
		mustBeGains(gain)
		must(gain <= cubic(mostPercent), api.ErrNone)
		n := 0
		for cubic(n) < gain {
			n++
		}
		return n
	})
}

func mustBeGains(gains ...int) {
	for _, gain := range gains {
		must(gain >= 0 && gain <= api.MaxGain, api.ErrRange)
	}
}

// rounded is the whole number nearest to a / n, of two the one further from 0.
func rounded(a, n int) int {
	if a < 0 {
		return -rounded(-a, n)
	}
	return (2*a + n) / (2 * n)
}

func bounded(n, most int) int { return min(max(n, -most), most) }
