package sample_test

import (
	"strings"
	"testing"

	"continuo/api"
	"continuo/sample"
)

// 4.1: bytes by hand: two's complement or plus 128, the lesser or the greater byte first, frame by frame or channel behind channel.
func TestEncodeByHand(t *testing.T) {
	const top = api.MaxSample
	b := api.Block{{65536, -65536, top}, {2, -32768, -top}}
	for _, c := range []struct {
		encoding           int
		interleaved, plane string
	}{
		{api.E8, "\x01\x00\xff\xff\x7f\x81", "\x01\xff\x7f\x00\xff\x81"},
		{api.EU8, "\x81\x80\x7f\x7f\xff\x01", "\x81\x7f\xff\x80\x7f\x01"},
		{api.E16L, "\x00\x01\x00\x00\x00\xff\x80\xff\xff\x7f\x01\x80", "\x00\x01\x00\xff\xff\x7f\x00\x00\x80\xff\x01\x80"},
		{api.E16B, "\x01\x00\x00\x00\xff\x00\xff\x80\x7f\xff\x80\x01", "\x01\x00\xff\x00\x7f\xff\x00\x00\xff\x80\x80\x01"},
		{api.E24L, "\x00\x00\x01\x02\x00\x00\x00\x00\xff\x00\x80\xff\xff\xff\x7f\x01\x00\x80", "\x00\x00\x01\x00\x00\xff\xff\xff\x7f\x02\x00\x00\x00\x80\xff\x01\x00\x80"},
		{api.E24B, "\x01\x00\x00\x00\x00\x02\xff\x00\x00\xff\x80\x00\x7f\xff\xff\x80\x00\x01", "\x01\x00\x00\xff\x00\x00\x7f\xff\xff\x00\x00\x02\xff\x80\x00\x80\x00\x01"},
		{api.E32L, "\x00\x00\x00\x01\x00\x02\x00\x00\x00\x00\x00\xff\x00\x00\x80\xff\x00\xff\xff\x7f\x00\x01\x00\x80",
			"\x00\x00\x00\x01\x00\x00\x00\xff\x00\xff\xff\x7f\x00\x02\x00\x00\x00\x00\x80\xff\x00\x01\x00\x80"},
		{api.E32B, "\x01\x00\x00\x00\x00\x00\x02\x00\xff\x00\x00\x00\xff\x80\x00\x00\x7f\xff\xff\x00\x80\x00\x01\x00",
			"\x01\x00\x00\x00\xff\x00\x00\x00\x7f\xff\xff\x00\x00\x00\x02\x00\xff\x80\x00\x00\x80\x00\x01\x00"},
	} {
		if s := encoded(t, c.encoding, false, b); s != c.interleaved {
			t.Errorf("encoding %d: %q, want %q", c.encoding, s, c.interleaved)
		}
		if s := encoded(t, c.encoding, true, b); s != c.plane {
			t.Errorf("encoding %d, planar: %q, want %q", c.encoding, s, c.plane)
		}
	}
}

// 4.1, Details: what bytes stand for, the lowest level that they can tell among them.
func TestDecodeByHand(t *testing.T) {
	const top = api.MaxSample
	for _, c := range []struct {
		encoding int
		s        string
		want     []int
	}{
		{api.E8, "\x00\x01\xff\x7f\x81\x80", []int{0, 65536, -65536, 8323072, -8323072, -8323072}},
		{api.EU8, "\x80\x81\x7f\xff\x01\x00", []int{0, 65536, -65536, 8323072, -8323072, -8323072}},
		{api.E16L, "\x01\x00\xff\xff\xff\x7f\x01\x80\x00\x80", []int{256, -256, 8388352, -8388352, -8388352}},
		{api.E16B, "\x00\x01\xff\xff\x7f\xff\x80\x01\x80\x00", []int{256, -256, 8388352, -8388352, -8388352}},
		{api.E24L, "\x01\x02\x03\xff\xff\xff\xff\xff\x7f\x01\x00\x80\x00\x00\x80", []int{197121, -1, top, -top, -top}},
		{api.E24B, "\x03\x02\x01\xff\xff\xff\x7f\xff\xff\x80\x00\x01\x80\x00\x00", []int{197121, -1, top, -top, -top}},
		{api.E32L, "\x7f\x00\x00\x00\x80\x00\x00\x00\x80\xff\xff\xff\xff\xff\xff\x7f\x00\x00\x00\x80", []int{0, 1, -1, top, -top}},
		{api.E32B, "\x00\x00\x00\x7f\x00\x00\x00\x80\xff\xff\xff\x80\x7f\xff\xff\xff\x80\x00\x00\x00", []int{0, 1, -1, top, -top}},
	} {
		for _, planar := range []bool{false, true} {
			if b := decoded(t, c.encoding, planar, 1, c.s); !same(b, [][]int{c.want}) {
				t.Errorf("encoding %d: %v, want %v", c.encoding, b, c.want)
			}
		}
	}
	if b := decoded(t, api.E8, false, 3, "\x01\x02\x03\x04\x05\x06"); !same(b, each(api.Block{{1, 4}, {2, 5}, {3, 6}}, timesStep)) {
		t.Errorf("interleaved: %v", b)
	}
	if b := decoded(t, api.E8, true, 3, "\x01\x02\x03\x04\x05\x06"); !same(b, each(api.Block{{1, 2}, {3, 4}, {5, 6}}, timesStep)) {
		t.Errorf("planar: %v", b)
	}
}

func timesStep(n int) int { return n * 65536 }

// 4.1, P4.2: Encode is what the chapter tells, and Decode of it is the block, or within half a step of it, or bounded.
func TestThereAndBack(t *testing.T) {
	d := draws(42)
	for range 400 {
		b := d.block(d.channels(), d.below(9))
		for _, x := range encodings() {
			for _, planar := range []bool{false, true} {
				s := encoded(t, x.encoding, planar, b)
				if want := x.write(each(b, x.level), planar); s != want {
					t.Fatalf("Encode(%d, %t, %v) = %q, want %q", x.encoding, planar, b, s, want)
				}
				back := decoded(t, x.encoding, planar, len(b), s)
				if !same(back, each(b, func(n int) int { return x.sample(x.level(n)) })) || x.bits >= 24 && !same(back, b) {
					t.Fatalf("encoding %d: %v becomes %v", x.encoding, b, back)
				}
				if x.bits <= 16 && !near(back, b, x) {
					t.Fatalf("encoding %d: %v becomes %v", x.encoding, b, back)
				}
			}
		}
	}
}

// near reports whether all samples of a are at most half a step from those of b, or bounded.
func near(a, b api.Block, x told) bool {
	end := x.most() * x.step()
	for i, channel := range a {
		for k, n := range channel {
			away := max(n-b[i][k], b[i][k]-n)
			if 2*away > x.step() && (max(n, -n) != end || max(b[i][k], -b[i][k]) < end) {
				return false
			}
		}
	}
	return true
}

// lifted returns bytes with the level above it in place of each lowest one that bytes can tell.
func lifted(x told, s string) string {
	w := x.bits / 8
	var out strings.Builder
	for ; s != ""; s = s[w:] {
		if s[:w] == x.bytes(-x.most()-1) {
			out.WriteString(x.bytes(-x.most()))
		} else {
			out.WriteString(s[:w])
		}
	}
	return out.String()
}

// P4.2: for 8, 16 and 24 bits Encode of what Decode gives is the bytes again, but for the lowest level.
func TestBytesBack(t *testing.T) {
	d := draws(43)
	for range 1000 {
		channels := d.channels()
		for _, x := range encodings() {
			s := d.text(channels * d.below(6) * x.bits / 8)
			for _, planar := range []bool{false, true} {
				b := decoded(t, x.encoding, planar, channels, s)
				if got := encoded(t, x.encoding, planar, b); x.bits < 32 && got != lifted(x, s) {
					t.Fatalf("encoding %d: %q becomes %q", x.encoding, s, got)
				}
			}
		}
	}
	for _, x := range encodings()[:2] {
		for n := range 256 {
			s := string([]byte{byte(n)})
			if got := encoded(t, x.encoding, false, decoded(t, x.encoding, false, 1, s)); got != lifted(x, s) {
				t.Errorf("encoding %d: %q becomes %q", x.encoding, s, got)
			}
		}
	}
}

// P4.3: Encode, interleaved, writes the same bytes however blocks are cut.
func TestEncodeCut(t *testing.T) {
	d := draws(44)
	for range 300 {
		b := d.block(d.channels(), d.below(30))
		for _, x := range encodings() {
			var s strings.Builder
			cuts := d.cuts(len(b[0]))
			for i, to := range cuts[1:] {
				s.WriteString(encoded(t, x.encoding, false, cut(t, b, cuts[i], to)))
			}
			if want := encoded(t, x.encoding, false, b); s.String() != want {
				t.Fatalf("encoding %d, cut at %v: %q, want %q", x.encoding, cuts, s.String(), want)
			}
		}
	}
}

// 4.1: the ends: no frames, and the most of all.
func TestBytesEnds(t *testing.T) {
	for _, x := range encodings() {
		for _, planar := range []bool{false, true} {
			for channels := 1; channels <= api.MaxChannels; channels++ {
				for _, frames := range []int{0, api.MaxFrames} {
					b := api.Block(filled(channels, frames, 0))
					for i := range b {
						for k := range frames {
							b[i][k] = (k*8 + i) * 256 % api.MaxSample / 65536 * 65536
						}
					}
					s := encoded(t, x.encoding, planar, b)
					if n, _ := sample.Size(x.encoding, channels, frames); len(s) != n {
						t.Errorf("encoding %d, %d channels, %d frames: %d bytes", x.encoding, channels, frames, len(s))
					}
					if !same(decoded(t, x.encoding, planar, channels, s), b) {
						t.Errorf("encoding %d, %d channels, %d frames", x.encoding, channels, frames)
					}
				}
			}
		}
	}
}

// 4.1, R2: Encode tells ErrInvalid ahead of ErrRange.
func TestEncodeErrors(t *testing.T) {
	for i, b := range invalidBlocks() {
		for _, encoding := range append(noEncodings(), api.E8, api.E24L, api.E32B) {
			if s, e := sample.Encode(encoding, i%2 == 0, b); s != "" || e != api.ErrInvalid {
				t.Errorf("Encode(%d, the invalid block %d) = %d bytes, %d", encoding, i, len(s), e)
			}
		}
	}
	for _, encoding := range noEncodings() {
		for _, planar := range []bool{false, true} {
			if s, e := sample.Encode(encoding, planar, api.Block{{1}}); s != "" || e != api.ErrRange {
				t.Errorf("Encode(%d) = %q, %d", encoding, s, e)
			}
		}
	}
}

// readers are the calls that read bytes of an encoding, with how much they give.
func readers() map[string]func(encoding, channels int, s string, planar bool) (int, api.Errno) {
	return map[string]func(encoding, channels int, s string, planar bool) (int, api.Errno){
		"Decode": func(encoding, channels int, s string, planar bool) (int, api.Errno) {
			b, e := sample.Decode(encoding, planar, channels, s)
			return len(b), e
		},
		"Turn": func(encoding, channels int, s string, planar bool) (int, api.Errno) {
			out, e := sample.Turn(s, encoding, channels, planar)
			return len(out), e
		},
	}
}

// 4.1, 4.3, R2: Decode and Turn tell ErrRange, then ErrSize: no whole number of frames, or too many.
func TestReadErrors(t *testing.T) {
	for name, read := range readers() {
		for _, planar := range []bool{false, true} {
			for _, x := range encodings() {
				for channels := 1; channels <= api.MaxChannels; channels++ {
					frame := channels * x.bits / 8
					for n := range 3*frame + 1 {
						want := api.ErrSize
						if n%frame == 0 {
							want = api.OK
						}
						if got, e := read(x.encoding, channels, strings.Repeat("a", n), planar); e != want || e != api.OK && got != 0 {
							t.Fatalf("%s(%d, %d channels, %d bytes): %d", name, x.encoding, channels, n, e)
						}
					}
					for _, n := range []int{frame*api.MaxFrames + 1, frame*api.MaxFrames + frame, frame * 100000} {
						if got, e := read(x.encoding, channels, strings.Repeat("a", n), planar); got != 0 || e != api.ErrSize {
							t.Errorf("%s(%d, %d channels, %d bytes): %d", name, x.encoding, channels, n, e)
						}
					}
				}
				for _, channels := range noChannels() {
					for _, s := range []string{"", "abc", "abcdefgh"} {
						if got, e := read(x.encoding, channels, s, planar); got != 0 || e != api.ErrRange {
							t.Errorf("%s(%d, %d channels, %q): %d", name, x.encoding, channels, s, e)
						}
					}
				}
			}
			for _, encoding := range noEncodings() {
				for _, s := range []string{"", "abc", "abcdefgh"} {
					if got, e := read(encoding, 2, s, planar); got != 0 || e != api.ErrRange {
						t.Errorf("%s(%d, %q): %d", name, encoding, s, e)
					}
				}
			}
		}
	}
}

// 4.3: bytes from interleaved to planar, and back, with all bytes as they are.
func TestTurnByHand(t *testing.T) {
	for _, c := range []struct {
		encoding, channels int
		interleaved, plane string
	}{
		{api.E8, 1, "abc", "abc"}, {api.E8, 2, "", ""}, {api.EU8, 2, "aAbBcC", "abcABC"}, {api.E8, 3, "abcABC", "aAbBcC"},
		{api.E16L, 2, "abABcdCD", "abcdABCD"}, {api.E16B, 2, "\x80\x00\x00\x80\x00\x01\x02\x03", "\x80\x00\x00\x01\x00\x80\x02\x03"},
		{api.E24L, 2, "abcABCdefDEF", "abcdefABCDEF"}, {api.E24B, 4, "abcdefghijkl", "abcdefghijkl"},
		{api.E32L, 2, "abcdABCDefghEFGH", "abcdefghABCDEFGH"}, {api.E32B, 1, "\x80\x00\x00\x00", "\x80\x00\x00\x00"},
	} {
		if s, e := sample.Turn(c.interleaved, c.encoding, c.channels, true); s != c.plane || e != api.OK {
			t.Errorf("Turn(%q, %d, %d, true) = %q, %d", c.interleaved, c.encoding, c.channels, s, e)
		}
		if s, e := sample.Turn(c.plane, c.encoding, c.channels, false); s != c.interleaved || e != api.OK {
			t.Errorf("Turn(%q, %d, %d, false) = %q, %d", c.plane, c.encoding, c.channels, s, e)
		}
	}
}

// P4.5: Turn there and back are the bytes; Turn of what Encode writes one way is what it writes the other way.
func TestTurned(t *testing.T) {
	d := draws(45)
	for range 500 {
		channels, frames := d.channels(), d.below(12)
		b := d.block(channels, frames)
		for _, x := range encodings() {
			s := d.text(channels * frames * x.bits / 8)
			for _, planar := range []bool{false, true} {
				there, e := sample.Turn(s, x.encoding, channels, planar)
				back, e2 := sample.Turn(there, x.encoding, channels, !planar)
				if back != s || e != api.OK || e2 != api.OK {
					t.Fatalf("encoding %d, %d channels: %q becomes %q, then %q", x.encoding, channels, s, there, back)
				}
				other, e := sample.Turn(encoded(t, x.encoding, !planar, b), x.encoding, channels, planar)
				if other != encoded(t, x.encoding, planar, b) || e != api.OK {
					t.Fatalf("encoding %d: %v, turned", x.encoding, b)
				}
			}
		}
	}
}
