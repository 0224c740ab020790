package adapt_test

import (
	"slices"
	"strings"
	"testing"

	"continuo/adapt"
	"continuo/api"
	"continuo/layout"
	"continuo/sample"
)

// P9.2, P7: whatever is pushed, adjusted, drained or copied, what comes out is that of the steps one behind the other.
func TestSteps(t *testing.T) {
	for seed := range 600 {
		d := draws(seed)
		from, to := d.pair()
		turn := d.turn(to)
		a, m := made(t, from, to, turn), newTold(from, to, turn)
		for range 8 {
			n := d.below(min(20, room(from, to)) * size(from))
			if from.Planar {
				n -= n % size(from)
			}
			s := d.bytes(n)
			if got, want := pushed(t, a, s), m.push(s); got != want || a.Waiting() != len(m.bytes) {
				t.Fatalf("%v to %v, %v, seed %d: Push(%q) = %q, not %q", from, to, turn, seed, s, got, want)
			}
			if m.state != nil && d.below(3) == 0 {
				n := d.within(100000)
				adjust(t, a, n)
				m.state.Adjust(n)
			}
			if d.below(3) == 0 {
				a = a.Copy()
			}
			if d.below(4) > 0 {
				continue
			}
			if got, want := drained(t, a), m.drain(); got != want {
				t.Fatalf("%v to %v, %v, seed %d: Drain = %q, not %q", from, to, turn, seed, got, want)
			}
		}
	}
}

// inPieces pushes bytes in pieces of lengths that are drawn.
func inPieces(t *testing.T, d *draws, a *adapt.Adapter, s string) string {
	t.Helper()
	var out strings.Builder
	most := []int{2, 5, 30, 400}[d.below(4)]
	for len(s) > 0 {
		n := min(d.below(most), len(s))
		out.WriteString(pushed(t, a, s[:n]))
		s = s[n:]
	}
	return out.String()
}

// P9.3: however interleaved bytes are cut, what comes out is the same, with adjustments between the same bytes.
func TestCut(t *testing.T) {
	for seed := range 400 {
		d := draws(seed)
		from, to := d.pair()
		from.Planar, to.Planar = false, false
		turn := d.turn(to)
		a, c := made(t, from, to, turn), made(t, from, to, turn)
		for range 3 {
			s := d.bytes(min(d.below(room(from, to)*size(from)), 2000))
			if got, want := inPieces(t, &d, c, s), pushed(t, a, s); got != want || c.Waiting() != a.Waiting() {
				t.Fatalf("%v to %v, %v: cut %q, at once %q", from, to, turn, got, want)
			}
			n := d.within(100000)
			if e := a.Adjust(n); e != c.Adjust(n) {
				t.Fatalf("Adjust = %d", e)
			}
		}
		if got, want := drained(t, c), drained(t, a); got != want {
			t.Fatalf("%v to %v, %v: Drain behind cuts %q, at once %q", from, to, turn, got, want)
		}
	}
}

// P9.3: byte by byte.
func TestCutBytes(t *testing.T) {
	for seed := range 100 {
		d := draws(seed)
		from, to := d.pair()
		from.Planar, to.Planar = false, false
		turn := d.turn(to)
		s := d.bytes(min(d.below(room(from, to)*size(from)+1), 150))
		a, c := made(t, from, to, turn), made(t, from, to, turn)
		got := ""
		for i := range len(s) {
			got += pushed(t, c, s[i:i+1])
			if want := (i + 1) % size(from); c.Waiting() != want {
				t.Fatalf("behind %d bytes %d wait, not %d", i+1, c.Waiting(), want)
			}
		}
		if want := pushed(t, a, s) + drained(t, a); got+drained(t, c) != want {
			t.Fatalf("%v to %v, %v: byte by byte %q, at once %q", from, to, turn, got, want)
		}
	}
}

// P9.4: of n frames and Drain just Frames(n) frames come out, also behind a first Drain.
func TestCounted(t *testing.T) {
	for seed := range 500 {
		d := draws(seed)
		from, to := d.pair()
		a := made(t, from, to, d.turn(to))
		for range 2 {
			came, went := 0, 0
			for range 1 + d.below(4) {
				n := d.below(min(room(from, to), api.MaxText/size(from), 300) + 1)
				came += n
				went += len(pushed(t, a, strings.Repeat("\x01", n*size(from))))
			}
			went += len(drained(t, a))
			if want, e := a.Frames(came); went != want*size(to) || e != api.OK {
				t.Fatalf("%v to %v: %d bytes of %d frames, not %d frames; %d", from, to, went, came, want, e)
			}
		}
	}
}

// P9.4: a frame that is whole comes out as soon as Delay frames have come behind it, and not sooner.
func TestDelayed(t *testing.T) {
	for quality := range 3 {
		rate := 5
		if quality > 0 {
			rate = 10
		}
		a := made(t, fixed(api.E8, 5, mono), fixed(api.E16L, rate, mono), api.Turn{Quality: max(quality, 1)})
		if a.Delay() != quality {
			t.Errorf("Delay = %d", a.Delay())
		}
		for i := range 10 {
			want := rate / 5
			if i < a.Delay() {
				want = 0
			}
			if out := pushed(t, a, "\x01"); len(out) != 2*want {
				t.Errorf("quality %d: with frame %d %d bytes come out", quality, i, len(out))
			}
		}
	}
}

// P9.4, P4: no frame is lost, doubled or moved: at whole places stand just the frames that came.
func TestKept(t *testing.T) {
	for seed := range 200 {
		d := draws(seed)
		times := d.below(8) + 1
		in := d.below(api.MaxRate/times) + 1
		l := d.layout()
		from, to := fixed(api.E16L, in, l), fixed(api.E16B, in*times, l)
		a := made(t, from, to, api.Turn{Quality: d.below(2) + 1})
		b := d.block(len(l), 1+d.below(50))
		s := must(sample.Encode(api.E16L, false, b))
		got := inPieces(t, &d, a, s) + drained(t, a)
		out := must(sample.Decode(api.E16B, false, len(l), got))
		came := must(sample.Decode(api.E16L, false, len(l), s))
		for c, channel := range out {
			var at []int
			for j := 0; j < len(channel); j += times {
				at = append(at, channel[j])
			}
			if !slices.Equal(at, came[c]) {
				t.Fatalf("%v to %v: at whole places stand %v, not %v", from, to, at, came[c])
			}
		}
	}
}

// P9.5: between equal formats bytes come out as they came, those of no level too, as soon as frames are whole.
func TestPass(t *testing.T) {
	for seed := range 300 {
		d := draws(seed)
		f := d.fixed(d.below(api.MaxRate) + 1)
		turn := api.Turn{Quality: d.below(2) + 1}
		if d.below(2) == 0 {
			turn.Gains = slices.Repeat([]int{one}, len(f.Layout))
		}
		a := made(t, f, f, turn)
		s := d.bytes(size(f) * d.below(100))
		got := ""
		if f.Planar {
			got = pushed(t, a, s)
		} else {
			got = inPieces(t, &d, a, s)
		}
		if got != s || drained(t, a) != "" {
			t.Fatalf("%v: %q becomes %q", f, s, got)
		}
		if !f.Planar && size(f) > 1 {
			pushed(t, a, s+"\x80")
			if a.Waiting() != 1 || drained(t, a) != "" || pushed(t, a, s) != s {
				t.Fatalf("%v: what is not whole is not forgotten", f)
			}
		}
	}
}

// P9.5: bytes of the lowest level of each encoding.
func TestPassLowest(t *testing.T) {
	for encoding, s := range []string{api.E8: "\x80", api.EU8: "\x00", api.E16L: "\x00\x80", api.E16B: "\x80\x00", api.E24L: "\x00\x00\x80", api.E24B: "\x80\x00\x00", api.E32L: "\x00\x00\x00\x80", api.E32B: "\x80\x00\x00\x00"} {
		if s == "" {
			continue
		}
		f := fixed(encoding, 5, mono)
		if got := pushed(t, made(t, f, f, linear), s); got != s {
			t.Errorf("encoding %d: %q becomes %q", encoding, s, got)
		}
	}
}

// lowest reports whether bytes have a sample of the lowest level, which counts as the one above it.
func lowest(f api.Fixed, s string) bool {
	b := must(sample.Decode(f.Encoding, f.Planar, len(f.Layout), s))
	return must(sample.Encode(f.Encoding, f.Planar, b)) != s
}

// P9.6: to a format with more bits and back the bytes are those that came, but for the lowest levels.
func TestThereAndBack(t *testing.T) {
	tried := 0
	for seed := range 2000 {
		d := draws(seed)
		from, to := d.fixed(d.below(api.MaxRate)+1), d.fixed(1)
		to.Rate, to.Layout = from.Rate, from.Layout
		if bits(from) >= bits(to) {
			continue
		}
		s := d.bytes(size(from) * d.below(40))
		there, back := made(t, from, to, linear), made(t, to, from, cubic)
		got := pushed(t, back, pushed(t, there, s))
		if !lowest(from, s) {
			tried++
			if got != s {
				t.Fatalf("%v to %v and back: %q becomes %q", from, to, s, got)
			}
		}
		if again := pushed(t, back, pushed(t, there, got)); again != got || len(got) != len(s) {
			t.Fatalf("%v to %v and back twice: %q, then %q", from, to, got, again)
		}
	}
	if tried < 100 {
		t.Errorf("only %d of them have no lowest level", tried)
	}
}

// P9.6: each level of 8 and 16 bits; the lowest one comes back as the one above it.
func TestThereAndBackAll(t *testing.T) {
	for _, from := range []int{api.E8, api.EU8, api.E16L, api.E16B} {
		for to := api.E16L; to <= api.E32B; to++ {
			f, g := fixed(from, 5, mono), fixed(to, 5, mono)
			if bits(f) >= bits(g) {
				continue
			}
			there, back := made(t, f, g, linear), made(t, g, f, linear)
			most := 1<<(bits(f)-1) - 1
			for level := -most - 1; level <= most; level++ {
				s := written(from, level)
				want := s
				if level < -most {
					want = written(from, -most)
				}
				if got := pushed(t, back, pushed(t, there, s)); got != want {
					t.Fatalf("encoding %d to %d and back: %q becomes %q", from, to, s, got)
				}
			}
		}
	}
}

// written are the bytes of a level of 8 or 16 bits, the lowest one too.
func written(encoding, level int) string {
	switch encoding {
	case api.E8:
		return string([]byte{byte(level)})
	case api.EU8:
		return string([]byte{byte(level + 128)})
	case api.E16L:
		return string([]byte{byte(level), byte(level >> 8)})
	}
	return string([]byte{byte(level >> 8), byte(level)})
}

// Adapters: the matrix is made normal, so that the loudest sound is twice one of half its samples, and not bounded.
func TestLoudest(t *testing.T) {
	for _, from := range [][]int{mono, stereo, six, must(layout.Usual(8))} {
		for _, to := range [][]int{mono, stereo, six, must(layout.Usual(8))} {
			f, g := fixed(api.E24L, 5, from), fixed(api.E24L, 5, to)
			b := filled(len(from), 10, most)
			quiet := blocked(t, f, g, linear, filled(len(from), 10, most/2))
			for i, channel := range blocked(t, f, g, linear, b) {
				if d := channel[0] - 2*quiet[i][0]; d < -2 || d > 2 {
					t.Errorf("%v to %v: %d, of half as loud ones %d", from, to, channel[0], quiet[i][0])
				}
			}
		}
	}
}
