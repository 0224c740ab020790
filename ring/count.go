package ring

import (
	"math"

	"continuo/api"
)

const maxSize = 1024

// Filled is how many frames were written and not read, by the counters.
func Filled(written, read int) (int, api.Errno) {
	return fitted(func() int {
		mustBeCounter(written)
		mustBeCounter(read)
		return ahead(uint16(written), uint16(read))
	})
}

// Room is how many frames more can be written, by the counters.
func Room(size, written, read int) (int, api.Errno) {
	return fitted(func() int {
		mustBeSize(size)
		mustBeCounter(written)
		mustBeCounter(read)
		filled := ahead(uint16(written), uint16(read))
		must(filled <= size, api.ErrSize)
		return size - filled
	})
}

// ahead is how far a counter is ahead of another one; it may have gone round in between.
func ahead(first, second uint16) int { return int(first - second) }

func mustBeCounter(n int) { must(n >= 0 && n <= math.MaxUint16, api.ErrRange) }

func mustBeSize(n int) { must(n >= 1 && n <= maxSize && n&(n-1) == 0, api.ErrRange) }

func mustBeFrames(channels int, frames ...[]int) {
	for _, frame := range frames {
		must(len(frame) == channels, api.ErrInvalid)
		for _, n := range frame {
			must(n >= -api.MaxSample && n <= api.MaxSample, api.ErrInvalid)
		}
	}
}
