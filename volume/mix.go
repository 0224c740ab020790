package volume

import (
	"iter"
	"slices"

	"continuo/api"
	"continuo/layout"
)

// mostMixed is how many blocks can be mixed at once.
const mostMixed = 40

// Mix is the sum of blocks, sample by sample.
func Mix(l []api.Block) (api.Block, api.Errno) {
	return fitted(func() api.Block {
		mustBeBlocks(l...)
		mustBeAlike(l)
		must(len(l) > 0, api.ErrNone)
		must(len(l) <= mostMixed, api.ErrLimit)
		return joined(l, func(samples []int) int { return bounded(sum(samples), api.MaxSample) })
	})
}

// mustBeAlike asks for blocks that all have as many channels, and as many frames.
func mustBeAlike(l []api.Block) {
	for _, b := range l {
		must(len(b) == len(l[0]) && len(b[0]) == len(l[0][0]), api.ErrSize)
	}
}

// joined returns a block whose samples join makes, each of those that stand at its place in blocks that are alike.
func joined(l []api.Block, join func(samples []int) int) api.Block {
	out, _ := layout.Silent(len(l[0]), len(l[0][0]))
	samples := make([]int, len(l))
	for c, channel := range out {
		for i := range channel {
			for k, b := range l {
				samples[k] = b[c][i]
			}
			channel[i] = join(samples)
		}
	}
	return out
}

func sum[N ~int](numbers []N) N {
	var out N
	for _, n := range numbers {
		out += n
	}
	return out
}

// Duck is a block that is softer where another sound is loud.
func Duck(b, by api.Block, bound, gain int) (api.Block, api.Errno) {
	return fitted(func() api.Block {
		mustBeBlocks(b, by)
		must(bound >= 0 && bound <= api.MaxSample, api.ErrRange)
		mustBeGains(gain)
		must(len(b[0]) == len(by[0]), api.ErrSize)
		return allScaled(b, ducked(by, bound, gain))
	})
}

// ducked yields the gain for the frames where a sound is loud, One for the others.
func ducked(by api.Block, bound, gain int) iter.Seq2[int, int] {
	return func(yield func(i, gain int) bool) {
		for i := range by[0] {
			now := api.One
			if isLoud(by, i, bound) {
				now = gain
			}
			if !yield(i, now) {
				return
			}
		}
	}
}

// isLoud reports whether any channel has a sample at or above a bound, taken above 0.
func isLoud(b api.Block, frame, bound int) bool {
	return slices.ContainsFunc(b, func(channel []int) bool {
		n := channel[frame]
		return max(n, -n) >= bound
	})
}
