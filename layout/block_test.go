package layout_test

import (
	"testing"

	"continuo/api"
	"continuo/layout"
)

// 3.1: 1 to 8 channels, all with the same number of samples, each from -MaxSample to MaxSample.
func TestValidBlock(t *testing.T) {
	for _, b := range []api.Block{
		{{}}, {nil}, {nil, {}}, filled(8, 0, 0), {{0}}, {{api.MaxSample, -api.MaxSample}}, {{1, 2, 3}, {-4, 5, -6}},
		filled(1, api.MaxFrames, api.MaxSample), filled(8, api.MaxFrames, -api.MaxSample),
	} {
		if !layout.ValidBlock(b) {
			t.Errorf("ValidBlock of %d channels of %d is false", len(b), len(b[0]))
		}
	}
	for i, b := range invalidBlocks() {
		if layout.ValidBlock(b) {
			t.Errorf("ValidBlock of the invalid block %d is true", i)
		}
	}
}

// 3.1: a block of zeros.
func TestSilent(t *testing.T) {
	for channels := 1; channels <= api.MaxChannels; channels++ {
		for _, frames := range []int{0, 1, 2, 100, api.MaxFrames} {
			b, e := layout.Silent(channels, frames)
			if e != api.OK || !layout.ValidBlock(b) || !same(b, filled(channels, frames, 0)) {
				t.Errorf("Silent(%d, %d): %d channels, %d", channels, frames, len(b), e)
			}
		}
	}
}

// 3.1: what is no block's size is out of range.
func TestSilentRange(t *testing.T) {
	for _, c := range [][2]int{
		{0, 1}, {9, 1}, {-1, 1}, {1, -1}, {8, api.MaxFrames + 1}, {0, 0}, {9, api.MaxFrames + 1},
		{1 << 62, 1}, {1, 1 << 62}, {-1 << 63, 0}, {1, -1 << 63},
	} {
		if b, e := layout.Silent(c[0], c[1]); e != api.ErrRange || len(b) != 0 {
			t.Errorf("Silent(%d, %d) = %d channels, %d", c[0], c[1], len(b), e)
		}
	}
}
