package sample_test

import (
	"testing"

	"continuo/api"
	"continuo/sample"
)

// 4.1: an encoding's bits.
func TestBits(t *testing.T) {
	for _, x := range encodings() {
		if n, e := sample.Bits(x.encoding); n != x.bits || e != api.OK {
			t.Errorf("Bits(%d) = %d, %d", x.encoding, n, e)
		}
	}
	for _, x := range noEncodings() {
		if n, e := sample.Bits(x); n != 0 || e != api.ErrRange {
			t.Errorf("Bits(%d) = %d, %d", x, n, e)
		}
	}
}

// 4.1: levels by hand: rounded away from 0 where two are equally near, and bounded.
func TestLevelByHand(t *testing.T) {
	const top = api.MaxSample
	for _, c := range []struct{ encoding, sample, want int }{
		{api.E16L, 128, 1}, {api.E16L, -128, -1}, {api.E16L, 127, 0}, {api.E16L, -127, 0}, {api.E16B, 383, 1}, {api.E16B, 384, 2},
		{api.E16B, -383, -1}, {api.E16B, -384, -2}, {api.E16L, top, 32767}, {api.E16L, -top, -32767}, {api.E16L, 8388479, 32767},
		{api.E16L, 8388351 - 128, 32766}, {api.E16L, -8388480, -32767}, {api.E16L, 0, 0},
		{api.E8, 32768, 1}, {api.E8, 32767, 0}, {api.E8, -32768, -1}, {api.EU8, -32767, 0}, {api.E8, 98304, 2}, {api.EU8, -98304, -2},
		{api.E8, top, 127}, {api.EU8, -top, -127}, {api.E8, 8290303, 126}, {api.EU8, 8290304, 127},
		{api.E24L, top, top}, {api.E24B, -top, -top}, {api.E24L, 5, 5}, {api.E24B, 0, 0},
		{api.E32L, top, 2147483392}, {api.E32B, -top, -2147483392}, {api.E32L, 1, 256}, {api.E32B, -3, -768},
	} {
		if n, e := sample.Level(c.encoding, c.sample); n != c.want || e != api.OK {
			t.Errorf("Level(%d, %d) = %d, %d, want %d", c.encoding, c.sample, n, e, c.want)
		}
	}
}

// 4.1: samples by hand.
func TestSampleByHand(t *testing.T) {
	const top = api.MaxSample
	for _, c := range []struct{ encoding, level, want int }{
		{api.E16L, 1, 256}, {api.E16B, -32767, -8388352}, {api.E16L, 32767, 8388352}, {api.E8, 1, 65536}, {api.EU8, -127, -8323072},
		{api.E24L, top, top}, {api.E24B, -top, -top}, {api.E24L, 7, 7},
		{api.E32L, 128, 1}, {api.E32L, 127, 0}, {api.E32B, -128, -1}, {api.E32B, -127, 0}, {api.E32L, 384, 2}, {api.E32L, 383, 1},
		{api.E32L, 2147483647, top}, {api.E32B, -2147483647, -top}, {api.E32L, 2147483392, top}, {api.E32B, 2147483520, top},
		{api.E32L, 2147483264, top}, {api.E32L, 2147483263, top - 1}, {api.E32B, -2147483263, 1 - top},
	} {
		if n, e := sample.Sample(c.encoding, c.level); n != c.want || e != api.OK {
			t.Errorf("Sample(%d, %d) = %d, %d, want %d", c.encoding, c.level, n, e, c.want)
		}
	}
}

// numbersTo are numbers up to most: the ends, the middle, and some of the rest.
func numbersTo(most int) []int {
	var out []int
	for n := range min(400, most+1) {
		out = append(out, n, -n, most-n, n-most)
	}
	d := draws(41)
	for range 20000 {
		out = append(out, d.within(most))
	}
	return out
}

// 4.1: levels and samples are what the chapter tells, over many numbers.
func TestLevelsAndSamples(t *testing.T) {
	for _, x := range encodings() {
		list := numbersTo(api.MaxSample)
		for i := -256; i <= 256; i++ {
			for near := -2; near <= 2; near++ {
				list = append(list, clamped(i*32768+near, api.MaxSample))
			}
		}
		for _, n := range list {
			if level, e := sample.Level(x.encoding, n); level != x.level(n) || e != api.OK {
				t.Fatalf("Level(%d, %d) = %d, %d, want %d", x.encoding, n, level, e, x.level(n))
			}
		}
		for _, n := range numbersTo(x.most()) {
			if got, e := sample.Sample(x.encoding, n); got != x.sample(n) || e != api.OK {
				t.Fatalf("Sample(%d, %d) = %d, %d, want %d", x.encoding, n, got, e, x.sample(n))
			}
		}
	}
}

// P4.2: there and back: all samples for 24 and 32 bits, all levels for 8, 16 and 24 bits.
func TestLevelsBack(t *testing.T) {
	for _, x := range encodings() {
		if x.bits >= 24 {
			for _, n := range numbersTo(api.MaxSample) {
				level, _ := sample.Level(x.encoding, n)
				if got, e := sample.Sample(x.encoding, level); got != n || e != api.OK {
					t.Fatalf("encoding %d: %d becomes %d, %d", x.encoding, n, got, e)
				}
			}
		}
		if x.bits <= 16 {
			for level := -x.most(); level <= x.most(); level++ {
				n, _ := sample.Sample(x.encoding, level)
				if got, e := sample.Level(x.encoding, n); got != level || e != api.OK {
					t.Fatalf("encoding %d: level %d becomes %d, %d", x.encoding, level, got, e)
				}
			}
		}
	}
}

// 4.1: ErrRange of what is no encoding, and of numbers beyond the bounds; the lowest level that bytes can tell is beyond them.
func TestLevelRange(t *testing.T) {
	for _, x := range encodings() {
		for _, n := range []int{api.MaxSample + 1, -api.MaxSample - 1, 1 << 40, 1<<63 - 1, -1 << 63} {
			if got, e := sample.Level(x.encoding, n); got != 0 || e != api.ErrRange {
				t.Errorf("Level(%d, %d) = %d, %d", x.encoding, n, got, e)
			}
		}
		for _, n := range []int{x.most() + 1, -x.most() - 1, 1 << 40, 1<<63 - 1, -1 << 63} {
			if got, e := sample.Sample(x.encoding, n); got != 0 || e != api.ErrRange {
				t.Errorf("Sample(%d, %d) = %d, %d", x.encoding, n, got, e)
			}
		}
	}
	for _, x := range noEncodings() {
		for _, n := range []int{0, 1, api.MaxSample, api.MaxSample + 1} {
			if got, e := sample.Level(x, n); got != 0 || e != api.ErrRange {
				t.Errorf("Level(%d, %d) = %d, %d", x, n, got, e)
			}
			if got, e := sample.Sample(x, n); got != 0 || e != api.ErrRange {
				t.Errorf("Sample(%d, %d) = %d, %d", x, n, got, e)
			}
		}
	}
}

// 4.1: how many bytes frames take.
func TestSize(t *testing.T) {
	for _, x := range encodings() {
		for channels := 1; channels <= 8; channels++ {
			for _, frames := range []int{0, 1, 3, 1000, api.MaxFrames} {
				if n, e := sample.Size(x.encoding, channels, frames); n != channels*frames*x.bits/8 || e != api.OK {
					t.Errorf("Size(%d, %d, %d) = %d, %d", x.encoding, channels, frames, n, e)
				}
			}
		}
		for _, frames := range []int{-1, api.MaxFrames + 1, 1 << 62, -1 << 63} {
			if n, e := sample.Size(x.encoding, 2, frames); n != 0 || e != api.ErrRange {
				t.Errorf("Size(%d, 2, %d) = %d, %d", x.encoding, frames, n, e)
			}
		}
		for _, channels := range noChannels() {
			if n, e := sample.Size(x.encoding, channels, 3); n != 0 || e != api.ErrRange {
				t.Errorf("Size(%d, %d, 3) = %d, %d", x.encoding, channels, n, e)
			}
		}
	}
	for _, x := range noEncodings() {
		if n, e := sample.Size(x, 2, 3); n != 0 || e != api.ErrRange {
			t.Errorf("Size(%d, 2, 3) = %d, %d", x, n, e)
		}
	}
}
