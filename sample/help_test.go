package sample_test

import (
	"slices"
	"testing"

	"continuo/api"
	"continuo/sample"
)

// told is an encoding as the chapter tells it.
type told struct {
	encoding, bits int
	greater        bool // the greater byte first
	plus           int  // what is added to a level
}

func encodings() []told {
	return []told{
		{api.E8, 8, false, 0}, {api.EU8, 8, false, 128},
		{api.E16L, 16, false, 0}, {api.E16B, 16, true, 0},
		{api.E24L, 24, false, 0}, {api.E24B, 24, true, 0},
		{api.E32L, 32, false, 0}, {api.E32B, 32, true, 0},
	}
}

// most is the greatest level.
func (x told) most() int { return 1<<x.bits/2 - 1 }

// step is how many samples a level of 16 or 8 bits stands for.
func (x told) step() int {
	if x.bits == 8 {
		return 65536
	}
	return 256
}

// level is a sample's level, as the chapter tells it.
func (x told) level(n int) int {
	switch x.bits {
	case 32:
		return n * 256
	case 24:
		return n
	}
	return clamped(nearest(n, x.step()), x.most())
}

// sample is a level's sample, as the chapter tells it.
func (x told) sample(level int) int {
	switch x.bits {
	case 32:
		return clamped(nearest(level, 256), api.MaxSample)
	case 24:
		return level
	}
	return level * x.step()
}

// bytes are those of a level.
func (x told) bytes(level int) string {
	var out []byte
	for n := uint32(level + x.plus); len(out) < x.bits/8; n >>= 8 {
		out = append(out, byte(n))
	}
	if x.greater {
		slices.Reverse(out)
	}
	return string(out)
}

// write writes levels by channels.
func (x told) write(levels [][]int, planar bool) string {
	var out []byte
	if planar {
		for _, channel := range levels {
			for _, n := range channel {
				out = append(out, x.bytes(n)...)
			}
		}
		return string(out)
	}
	for frame := range levels[0] {
		for _, channel := range levels {
			out = append(out, x.bytes(channel[frame])...)
		}
	}
	return string(out)
}

// nearest is the whole number nearest to a / n, of two the one further from 0.
func nearest(a, n int) int {
	down := a / n
	for _, near := range []int{down - 1, down, down + 1} {
		if twice := 2 * (a - near*n); twice > -n && twice < n || twice == n && near < 0 || twice == -n && near > 0 {
			return near
		}
	}
	panic("no number is nearest")
}

func clamped(n, most int) int {
	if n > most {
		return most
	}
	if n < -most {
		return -most
	}
	return n
}

// each returns a block with what change makes of its samples.
func each(b api.Block, change func(n int) int) api.Block {
	var out api.Block
	for _, channel := range b {
		var row []int
		for _, n := range channel {
			row = append(row, change(n))
		}
		out = append(out, row)
	}
	return out
}

// encoded is Encode of a block that is valid.
func encoded(t *testing.T, encoding int, planar bool, b api.Block) string {
	t.Helper()
	s, e := sample.Encode(encoding, planar, b)
	if e != api.OK {
		t.Fatalf("Encode(%d, %t, %d channels) = %d", encoding, planar, len(b), e)
	}
	return s
}

// decoded is Decode of bytes that fit.
func decoded(t *testing.T, encoding int, planar bool, channels int, s string) api.Block {
	t.Helper()
	b, e := sample.Decode(encoding, planar, channels, s)
	if e != api.OK || len(b) != channels {
		t.Fatalf("Decode(%d, %t, %d, %d bytes) = %d channels, %d", encoding, planar, channels, len(s), len(b), e)
	}
	return b
}

// cut is Cut within the bounds.
func cut(t *testing.T, b api.Block, from, to int) api.Block {
	t.Helper()
	out, e := sample.Cut(b, from, to)
	if e != api.OK {
		t.Fatalf("Cut(%d frames, %d, %d) = %d", len(b[0]), from, to, e)
	}
	return out
}

// same reports whether two blocks are equal.
func same(a, b [][]int) bool {
	return slices.EqualFunc(a, b, func(x, y []int) bool { return slices.Equal(x, y) })
}

// filled returns so many rows of so many numbers n.
func filled(rows, columns, n int) [][]int {
	var out [][]int
	for range rows {
		out = append(out, slices.Repeat([]int{n}, columns))
	}
	return out
}

// draws are numbers that look drawn, the same ones each time.
type draws uint64

func (d *draws) below(n int) int {
	*d = *d*6364136223846793005 + 1442695040888963407
	return int(uint64(*d)>>33) % n
}

// within draws a number from -most to most.
func (d *draws) within(most int) int { return d.below(2*most+1) - most }

func (d *draws) channels() int { return d.below(api.MaxChannels) + 1 }

// block draws a block of loud samples, of quiet ones, or of such that lie about halfway between two levels.
func (d *draws) block(channels, frames int) api.Block {
	most := []int{api.MaxSample, 100000, 300, 3}[d.below(4)]
	halves := d.below(3) == 0
	return each(filled(channels, frames, 0), func(int) int {
		if halves {
			return clamped(d.within(1000)*128+d.within(1), api.MaxSample)
		}
		return d.within(most)
	})
}

// text draws so many bytes.
func (d *draws) text(n int) string {
	out := make([]byte, n)
	for i := range out {
		out[i] = byte(d.below(256))
		if d.below(4) == 0 {
			out[i] = "\x00\x80\x7f\xff"[d.below(4)]
		}
	}
	return string(out)
}

// cuts draws where to cut so many frames: ascending, from 0 to all of them, some twice.
func (d *draws) cuts(frames int) []int {
	out := []int{0, frames}
	for range d.below(6) {
		out = append(out, d.below(frames+1))
	}
	slices.Sort(out)
	return out
}

// noEncodings are almost right.
func noEncodings() []int { return []int{0, 9, -1, 10, 1 << 62, -1 << 63, 1<<63 - 1, 1<<32 + 1} }

// noChannels are no number of channels.
func noChannels() []int { return []int{0, 9, -1, -8, 1 << 62, -1 << 63, 1<<63 - 1, 1<<32 + 1} }

// invalidBlocks are almost right.
func invalidBlocks() []api.Block {
	return []api.Block{
		nil, {}, filled(9, 0, 0), filled(9, 3, 0), filled(100000, 0, 0), {{1}, {}}, {{}, {1}}, {{1, 2}, {3}}, {{1}, {2}, nil},
		filled(1, api.MaxFrames+1, 0), filled(8, api.MaxFrames+1, 0), {make([]int, api.MaxFrames), make([]int, api.MaxFrames+1)},
		{{api.MaxSample + 1}}, {{-api.MaxSample - 1}}, {{0, 0}, {0, api.MaxSample + 1}}, {{0, -api.MaxSample - 1}, {0, 0}},
		{{1<<63 - 1}}, {{-1 << 63}},
	}
}
