package pool

import (
	"continuo/api"
)

const (
	maxBuffers = 64
	maxBlocks  = 8
	maxSize    = 65536
	maxStride  = 256
	maxAlign   = 256
	kindBits   = 8
)

// Valid reports whether a wish is valid.
func Valid(w api.Want) bool {
	return within(w.Least, 1, w.Most) && w.Most <= maxBuffers &&
		shaped(w.Blocks, w.Size, w.Stride, w.Align) && w.Size >= w.Stride &&
		within(w.Kinds, 1, 1<<kindBits-1)
}

// shaped reports whether the numbers that wishes and deals have in common are within their bounds.
func shaped(blocks, size, stride, align int) bool {
	return within(blocks, 1, maxBlocks) && within(size, 1, maxSize) && within(stride, 1, maxStride) &&
		within(align, 1, maxAlign) && align&(align-1) == 0
}

func within(n, least, most int) bool { return n >= least && n <= most }

func mustBeWish(w api.Want) { must(Valid(w), api.ErrInvalid) }

// counts are how many buffers will do, ascending.
func counts(w api.Want) []int {
	var out []int
	for n := w.Least; n <= w.Most; n++ {
		out = append(out, n)
	}
	return out
}

// kinds are the numbers of the bits that will do, ascending.
func kinds(w api.Want) []int {
	var out []int
	for bit := range kindBits {
		if w.Kinds>>bit&1 == 1 {
			out = append(out, bit)
		}
	}
	return out
}
