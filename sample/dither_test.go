package sample_test

import (
	"math/big"
	"slices"
	"strings"
	"testing"

	"continuo/api"
	"continuo/sample"
)

// noisy are a dither's levels as the chapter tells them, with its random numbers of any length.
type noisy struct {
	told
	shape  bool
	r      *big.Int
	errors []int
}

func newNoisy(x told, seed, channels int, shape bool) *noisy {
	return &noisy{x, shape, big.NewInt(int64(seed)), make([]int, channels)}
}

func (x *noisy) noise() int {
	x.r.Mul(x.r, big.NewInt(1103515245)).Add(x.r, big.NewInt(12345)).Mod(x.r, big.NewInt(2147483648))
	return int(new(big.Int).Mod(x.r, big.NewInt(int64(x.step()))).Int64()) - x.step()/2
}

func (x *noisy) levels(b api.Block) [][]int {
	out := filled(len(b), len(b[0]), 0)
	for frame := range b[0] {
		for i, channel := range b {
			wanted := channel[frame] - x.errors[i]
			level := clamped(nearest(wanted+x.noise(), x.step()), x.most())
			out[i][frame] = level
			if x.shape {
				x.errors[i] = clamped(level*x.step()-wanted, x.step())
			}
		}
	}
	return out
}

// dither is NewDither of what fits.
func dither(t *testing.T, encoding, seed, channels int, shape bool) *sample.Dither {
	t.Helper()
	d, e := sample.NewDither(encoding, seed, channels, shape)
	if e != api.OK || d == nil {
		t.Fatalf("NewDither(%d, %d, %d, %t) = %d", encoding, seed, channels, shape, e)
	}
	return d
}

// written is a dither's Encode of a block that fits.
func written(t *testing.T, d *sample.Dither, planar bool, b api.Block) string {
	t.Helper()
	s, e := d.Encode(planar, b)
	if e != api.OK {
		t.Fatalf("Encode of %d channels = %d", len(b), e)
	}
	return s
}

// seeds are the ends, and some between.
func seeds() []int { return []int{1, 2, 12345, 1 << 16, 1<<31 - 2, 1<<31 - 1} }

// coarse are the encodings of 8 and 16 bits.
func coarse() []told { return encodings()[:4] }

// 4.2: by hand: the numbers of the seed 1 are 1103527590, 377401575, 662824084, 1147902781, ..: modulo 256 that is 166, 231, 148, 61, less 128 it is 38, 103, 20, -67.
func TestDitherByHand(t *testing.T) {
	d := dither(t, api.E16L, 1, 1, true)
	for i, c := range []struct {
		sample, error int
		s             string
	}{
		{100, 156, "\x01\x00"}, // 100 + 38 is 138: level 1
		{100, 56, "\x00\x00"},  // -56 + 103 is 47: level 0
		{0, 56, "\x00\x00"},    // -56 + 20 is -36: level 0
		{300, 12, "\x01\x00"},  // 244 - 67 is 177: level 1
	} {
		if s := written(t, d, false, api.Block{{c.sample}}); s != c.s || !slices.Equal(d.Errors(), []int{c.error}) {
			t.Errorf("sample %d: %q, %v", i, s, d.Errors())
		}
	}
	plain := dither(t, api.E16B, 1, 2, false)
	// The noises go frame by frame, also where the bytes do not.
	if s := written(t, plain, true, api.Block{{90, 108}, {25, 194}}); s != "\x00\x01\x00\x01\x00\x01\x00\x00" || !slices.Equal(plain.Errors(), []int{0, 0}) {
		t.Errorf("%q, %v", s, plain.Errors())
	}
	if s := written(t, dither(t, api.E16B, 1, 2, false), false, api.Block{{89, 107}, {24, 195}}); s != "\x00\x00\x00\x00\x00\x00\x00\x01" {
		t.Errorf("%q", s)
	}
}

// 4.2: a dither writes what the chapter tells, block by block.
func TestDither(t *testing.T) {
	draw := draws(46)
	for _, x := range coarse() {
		for _, seed := range seeds() {
			for channels := 1; channels <= api.MaxChannels; channels++ {
				for _, shape := range []bool{false, true} {
					d, want := dither(t, x.encoding, seed, channels, shape), newNoisy(x, seed, channels, shape)
					for range 6 {
						b, planar := draw.block(channels, draw.below(20)), draw.below(2) == 0
						if s, w := written(t, d, planar, b), x.write(want.levels(b), planar); s != w {
							t.Fatalf("encoding %d, seed %d, shaping %t: %v gives %q, want %q", x.encoding, seed, shape, b, s, w)
						}
						if !slices.Equal(d.Errors(), want.errors) || !shape && slices.Max(append(d.Errors(), 0)) != 0 {
							t.Fatalf("encoding %d, seed %d, shaping %t: errors %v, want %v", x.encoding, seed, shape, d.Errors(), want.errors)
						}
					}
				}
			}
		}
	}
}

// 4.2: errors are 0 at first, one for each channel.
func TestErrorsAtFirst(t *testing.T) {
	for channels := 1; channels <= api.MaxChannels; channels++ {
		for _, shape := range []bool{false, true} {
			if l := dither(t, api.E8, 7, channels, shape).Errors(); !slices.Equal(l, make([]int, channels)) {
				t.Errorf("%d channels: errors %v", channels, l)
			}
		}
	}
}

// P4.4: without shaping a level is at most one away from that without noise, and of some it is one away.
func TestNoise(t *testing.T) {
	draw := draws(47)
	for _, x := range coarse() {
		for _, seed := range seeds() {
			b := each(filled(2, 500, 0), func(int) int { return draw.within(api.MaxSample) })
			copy(b[0], draw.block(1, 200)[0])
			b[1][7] = api.MaxSample
			s := written(t, dither(t, x.encoding, seed, 2, false), false, b)
			away := 0
			for at := 0; at < len(s); at += x.bits / 8 {
				n := b[at*8/x.bits%2][at*8/x.bits/2]
				near := false
				for l := x.level(n) - 1; l <= x.level(n)+1; l++ {
					near = near || l == clamped(l, x.most()) && s[at:at+x.bits/8] == x.bytes(l)
				}
				if !near {
					t.Fatalf("encoding %d, seed %d: %d becomes %q", x.encoding, seed, n, s[at:at+x.bits/8])
				}
				if s[at:at+x.bits/8] != x.bytes(x.level(n)) {
					away++
				}
			}
			if away == 0 {
				t.Errorf("encoding %d, seed %d: there is no noise", x.encoding, seed)
			}
		}
	}
}

// P4.4: errors are never beyond a step, also where levels are bounded; there they reach a step.
func TestErrorsBounded(t *testing.T) {
	for _, x := range coarse() {
		for _, n := range []int{api.MaxSample, -api.MaxSample, x.most() * x.step(), 1 - api.MaxSample} {
			d, reached := dither(t, x.encoding, 99, 3, true), false
			for range 200 {
				written(t, d, false, api.Block{{n}, {-n}, {0}})
				for _, l := range d.Errors() {
					if l < -x.step() || l > x.step() {
						t.Fatalf("encoding %d, sample %d: error %d", x.encoding, n, l)
					}
					reached = reached || l == x.step()
				}
			}
			if far := max(n, -n) == api.MaxSample; far && !reached {
				t.Errorf("encoding %d, sample %d: no error reaches a step", x.encoding, n)
			}
		}
	}
}

// P4.3: a dither writes the same bytes however blocks are cut, and then goes on the same way.
func TestDitherCut(t *testing.T) {
	draw := draws(48)
	for range 300 {
		x, channels, shape := coarse()[draw.below(4)], draw.channels(), draw.below(2) == 0
		b, seed := draw.block(channels, draw.below(40)), seeds()[draw.below(6)]
		whole, parts := dither(t, x.encoding, seed, channels, shape), dither(t, x.encoding, seed, channels, shape)
		var s strings.Builder
		cuts := draw.cuts(len(b[0]))
		for i, to := range cuts[1:] {
			planar := draw.below(2) == 0
			part := written(t, parts, planar, cut(t, b, cuts[i], to))
			if planar {
				part, _ = sample.Turn(part, x.encoding, channels, false)
			}
			s.WriteString(part)
		}
		if want := written(t, whole, false, b); s.String() != want || !slices.Equal(parts.Errors(), whole.Errors()) {
			t.Fatalf("encoding %d, cut at %v: %q, want %q", x.encoding, cuts, s.String(), want)
		}
		if next := draw.block(channels, 9); written(t, whole, true, next) != written(t, parts, true, next) {
			t.Fatalf("encoding %d, cut at %v: it goes on otherwise", x.encoding, cuts)
		}
	}
}

// 4.2: a copy goes on as the dither does, and neither changes the other one.
func TestCopy(t *testing.T) {
	draw := draws(49)
	for _, x := range coarse() {
		for _, shape := range []bool{false, true} {
			d := dither(t, x.encoding, 5, 2, shape)
			written(t, d, false, draw.block(2, 30))
			other, b := d.Copy(), draw.block(2, 50)
			before := d.Errors()
			s := written(t, d, false, b)
			if !slices.Equal(other.Errors(), before) {
				t.Errorf("encoding %d: the copy's errors are %v, not %v", x.encoding, other.Errors(), before)
			}
			third, after := other.Copy(), d.Errors()
			if written(t, other, false, b) != s || !slices.Equal(other.Errors(), after) {
				t.Errorf("encoding %d: the copy goes on otherwise", x.encoding)
			}
			written(t, other, false, b)
			if !slices.Equal(d.Errors(), after) || written(t, third, false, b) != s {
				t.Errorf("encoding %d: a copy changes another one", x.encoding)
			}
		}
	}
}

// 4.2, R2: NewDither tells ErrRange, then ErrKind.
func TestNewDitherErrors(t *testing.T) {
	told := func(encoding, seed, channels int, want api.Errno) {
		for _, shape := range []bool{false, true} {
			if d, e := sample.NewDither(encoding, seed, channels, shape); d != nil || e != want {
				t.Errorf("NewDither(%d, %d, %d, %t) = %v, %d, want %d", encoding, seed, channels, shape, d, e, want)
			}
		}
	}
	for _, x := range encodings() {
		for _, seed := range []int{0, -1, 1 << 31, 1<<31 + 1, 1 << 62, -1 << 63} {
			told(x.encoding, seed, 1, api.ErrRange)
		}
		for _, channels := range noChannels() {
			told(x.encoding, 1, channels, api.ErrRange)
		}
		if x.bits >= 24 {
			told(x.encoding, 1, 1, api.ErrKind)
			told(x.encoding, 1<<31-1, 8, api.ErrKind)
		}
	}
	for _, encoding := range noEncodings() {
		told(encoding, 1, 1, api.ErrRange)
		told(encoding, 0, 9, api.ErrRange)
	}
}

// 4.2, R2, R9: a dither's Encode tells ErrInvalid, then ErrSize, and then it is as it was.
func TestDitherErrors(t *testing.T) {
	for channels := 1; channels <= api.MaxChannels; channels++ {
		d, other := dither(t, api.E16L, 3, channels, true), dither(t, api.E16L, 3, channels, true)
		for _, planar := range []bool{false, true} {
			for i, b := range invalidBlocks() {
				if s, e := d.Encode(planar, b); s != "" || e != api.ErrInvalid {
					t.Errorf("%d channels, the invalid block %d: %d bytes, %d", channels, i, len(s), e)
				}
			}
			for n := 1; n <= api.MaxChannels; n++ {
				if n == channels {
					continue
				}
				for _, frames := range []int{0, 5} {
					if s, e := d.Encode(planar, filled(n, frames, 100)); s != "" || e != api.ErrSize {
						t.Errorf("%d channels, a block of %d: %q, %d", channels, n, s, e)
					}
				}
			}
			if b := filled(channels, 3, 100); written(t, d, planar, b) != written(t, other, planar, b) || !slices.Equal(d.Errors(), other.Errors()) {
				t.Errorf("%d channels: what is refused changes the dither", channels)
			}
		}
	}
}

// R5: nil is no dither.
func TestNilDither(t *testing.T) {
	var d *sample.Dither
	for _, b := range append(invalidBlocks(), api.Block{{1}}) {
		if s, e := d.Encode(false, b); s != "" || e != api.ErrInvalid {
			t.Errorf("Encode = %q, %d", s, e)
		}
	}
	if l := d.Errors(); len(l) != 0 {
		t.Errorf("Errors = %v", l)
	}
	if c := d.Copy(); c != nil {
		t.Errorf("Copy = %v", c)
	}
}
