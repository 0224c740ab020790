package adapt_test

import (
	"slices"
	"strings"
	"testing"

	"continuo/adapt"
	"continuo/api"
	"continuo/layout"
	"continuo/sample"
)

// Adapters: the steps of formats as they stand in the chapter, or follow from it at a glance.
func TestStepsByHand(t *testing.T) {
	cd, tape := fixed(api.E16L, 44100, stereo), fixed(api.E16L, 48000, mono)
	for _, c := range []struct {
		from, to api.Fixed
		turn     api.Turn
		want     string
	}{
		{cd, tape, linear, "decode mix rate encode"},
		{tape, cd, linear, "decode rate mix encode"},
		{tape, cd, api.Turn{Quality: 1, Gains: []int{0, one}}, "decode rate mix gain encode"},
		{cd, tape, api.Turn{Quality: 1, Gains: []int{half}}, "decode mix rate gain encode"},
		{cd, tape, api.Turn{Quality: 1, Gains: []int{one}, Seed: 5}, "decode mix rate encode"},
		{cd, cd, cubic, "pass"},
		{cd, cd, api.Turn{Quality: 2, Gains: []int{one, one}}, "pass"},
		{cd, cd, api.Turn{Quality: 2, Gains: []int{one, one + 1}}, "decode gain encode"},
		{cd, cd, api.Turn{Quality: 2, Gains: []int{one - 1, one}}, "decode gain encode"},
		{cd, cd, api.Turn{Quality: 2, Seed: 1}, "decode encode"},
		{fixed(api.E24L, 8, mono), fixed(api.E24L, 8, mono), api.Turn{Quality: 1, Seed: 1}, "decode encode"},
		{fixed(api.E32B, 8, mono), fixed(api.E32B, 8, mono), api.Turn{Quality: 1, Seed: 1}, "decode encode"},
		{cd, planar(api.E16L, 44100, stereo), linear, "decode encode"},
		{cd, fixed(api.E16B, 44100, stereo), linear, "decode encode"},
		{cd, fixed(api.E16L, 44101, stereo), linear, "decode rate encode"},
		{cd, fixed(api.E16L, 44100, []int{api.PFR, api.PFL}), linear, "decode mix encode"},
		{cd, fixed(api.E16L, 44100, []int{api.PFL, api.PFC}), linear, "decode mix encode"},
		{cd, fixed(api.E16L, 48000, []int{api.PFR, api.PFL}), linear, "decode mix rate encode"},
		{fixed(api.E8, 5, mono), fixed(api.E8, 5, []int{api.PFC}), linear, "decode mix encode"},
		{fixed(api.E8, 5, stereo), fixed(api.E8, 5, six), linear, "decode mix encode"},
		{fixed(api.E8, 5, six), fixed(api.E8, 6, stereo), linear, "decode mix rate encode"},
		{fixed(api.E8, 5, stereo), fixed(api.E8, 6, six), linear, "decode rate mix encode"},
		{planar(api.EU8, 5, six), planar(api.EU8, 5, six), linear, "pass"},
	} {
		if got := strings.Join(made(t, c.from, c.to, c.turn).Steps(), " "); got != c.want {
			t.Errorf("%v to %v, %v: %s, not %s", c.from, c.to, c.turn, got, c.want)
		}
	}
}

// Adapters: the steps of formats that are drawn.
func TestStepsDrawn(t *testing.T) {
	for seed := range 3000 {
		d := draws(seed)
		from, to := d.pair()
		turn := d.turn(to)
		if got, want := made(t, from, to, turn).Steps(), toldSteps(from, to, turn); !slices.Equal(got, want) {
			t.Fatalf("%v to %v, %v: %v, not %v", from, to, turn, got, want)
		}
	}
}

// 9.1: what is not valid, wherever it stands, is told ahead of rates that are not near.
func TestNewInvalid(t *testing.T) {
	good, far := fixed(api.E16L, 1, stereo), fixed(api.E16L, api.MaxRate, stereo)
	invalid := func(from, to api.Fixed, turn api.Turn) {
		t.Helper()
		if a, e := adapt.New(from, to, turn); a != nil || e != api.ErrInvalid {
			t.Errorf("New = %v, %d", a, e)
		}
		if b, e := adapt.Block(from, to, turn, filled(3, 2, 1)); len(b) != 0 || e != api.ErrInvalid {
			t.Errorf("Block = %v, %d", b, e)
		}
	}
	for _, f := range invalidFixed() {
		invalid(f, good, linear)
		invalid(good, f, linear)
		invalid(f, f, linear)
		invalid(far, f, linear)
	}
	for _, turn := range invalidTurns() {
		invalid(good, good, turn)
		invalid(good, far, turn)
		invalid(fixed(api.E8, 5, mono), good, turn)
	}
	invalid(good, fixed(api.E16L, 1, mono), api.Turn{Quality: 1, Gains: []int{one, one}}) // gains of the first format's channels
}

// 9.1: rates as in layer 5.
func TestNewKind(t *testing.T) {
	for _, c := range []struct {
		from, to int
		want     api.Errno
	}{
		{1, 160, api.OK}, {160, 1, api.OK}, {1, 161, api.ErrKind}, {161, 1, api.ErrKind}, {1200, api.MaxRate, api.OK},
		{1199, api.MaxRate, api.ErrKind}, {api.MaxRate, 1200, api.OK}, {api.MaxRate, 1199, api.ErrKind}, {1, api.MaxRate, api.ErrKind},
	} {
		from, to := fixed(api.E16L, c.from, stereo), fixed(api.E8, c.to, mono)
		if a, e := adapt.New(from, to, linear); e != c.want || (a == nil) != (e != api.OK) {
			t.Errorf("New from %d to %d = %v, %d, not %d", c.from, c.to, a, e, c.want)
		}
		if b, e := adapt.Block(from, to, linear, filled(2, 0, 0)); e != c.want || (len(b) == 0) != (e != api.OK) {
			t.Errorf("Block from %d to %d = %v, %d, not %d", c.from, c.to, b, e, c.want)
		}
	}
}

// Adapters: what comes out of a piece and of Drain, as it follows from the chapters at a glance.
func TestPushByHand(t *testing.T) {
	reversed := []int{api.PFR, api.PFL}
	for _, c := range []struct {
		name          string
		from, to      api.Fixed
		turn          api.Turn
		in, out, rest string
	}{
		{"pass", fixed(api.E16L, 5, mono), fixed(api.E16L, 5, mono), linear, "\x00\x80\x01\x02", "\x00\x80\x01\x02", ""},
		{"bytes", fixed(api.E16L, 5, mono), fixed(api.E16B, 5, mono), linear, "\x01\x02\xfe\xff", "\x02\x01\xff\xfe", ""},
		{"lowest", fixed(api.E16L, 5, mono), fixed(api.E16B, 5, mono), linear, "\x00\x80", "\x80\x01", ""},
		{"unsigned", fixed(api.EU8, 5, mono), fixed(api.E8, 5, mono), linear, "\x80\x81\x01\x00\xff", "\x00\x01\x81\x81\x7f", ""},
		{"more bits", fixed(api.E8, 5, mono), fixed(api.E32B, 5, mono), linear, "\x7f\xff", "\x7f\x00\x00\x00\xff\x00\x00\x00", ""},
		{"fewer bits", fixed(api.E16B, 5, mono), fixed(api.E8, 5, mono), linear, "\x01\x80\xfe\x80\x01\x7f\xfe\x81\x7f\xff", "\x02\xfe\x01\xff\x7f", ""},
		{"to planar", fixed(api.E8, 5, stereo), planar(api.E8, 5, stereo), linear, "\x01\x02\x03\x04\x05\x06", "\x01\x03\x05\x02\x04\x06", ""},
		{"from planar", planar(api.E8, 5, stereo), fixed(api.E8, 5, stereo), linear, "\x01\x02\x03\x04\x05\x06", "\x01\x04\x02\x05\x03\x06", ""},
		{"to one", fixed(api.E8, 5, stereo), fixed(api.E8, 5, mono), linear, "\x03\x05\x03\x04\xfd\xfc", "\x04\x04\xfc", ""},
		{"from one", fixed(api.E8, 5, mono), fixed(api.E8, 5, stereo), linear, "\x03\xfd", "\x03\x03\xfd\xfd", ""},
		{"other order", fixed(api.E8, 5, stereo), fixed(api.E8, 5, reversed), linear, "\x01\x02\x03\x04", "\x02\x01\x04\x03", ""},
		// The weight of each is 23,170 of 65,536 for PFL and PFR, in sum less than One: PLFE is heard only with lfe.
		{"low sounds", fixed(api.E24B, 5, []int{api.PLFE}), fixed(api.E24B, 5, stereo), linear, "\x01\x00\x00", "\x00\x5a\x82\x00\x5a\x82", ""},
		// PFC goes to PFL with 46,341 beside PFL's own 65,536, which is 111,877 in sum: normal, 38,390 and 27,145.
		{"normal", fixed(api.E24B, 5, []int{api.PFL, api.PFC}), fixed(api.E24B, 5, stereo), linear, "\x01\x00\x00\x01\x00\x00", "\x00\xff\xff\x00\xb5\x05", ""},
		{"linear", fixed(api.E16L, 1, mono), fixed(api.E16L, 2, mono), linear, "\x00\x00\x0a\x00", "\x00\x00\x05\x00", "\x0a\x00\x05\x00"},
		{"cubic", fixed(api.E16L, 1, mono), fixed(api.E16L, 2, mono), cubic, "\x00\x00\x10\x00", "", "\x00\x00\x09\x00\x10\x00\x09\x00"},
		{"slower", fixed(api.E8, 2, mono), fixed(api.E8, 1, mono), linear, "\x01\x02\x03\x04\x05", "\x01\x03", "\x05"},
		{"gain", fixed(api.E8, 5, stereo), fixed(api.E8, 5, stereo), api.Turn{Quality: 1, Gains: []int{half, 2 * one}}, "\x03\x03\xfd\x40\x00\xff", "\x02\x06\xfe\x7f\x00\xfe", ""},
		{"gain 0", fixed(api.E8, 5, mono), fixed(api.EU8, 5, stereo), api.Turn{Quality: 1, Gains: []int{0, one}}, "\x03\xfd", "\x80\x83\x80\x7d", ""},
		// Rounded only once, where bytes are made: 1.5 levels of both are 3.
		{"once", fixed(api.E16B, 5, stereo), fixed(api.E8, 5, stereo), api.Turn{Quality: 1, Gains: []int{2 * one, one}}, "\x01\x80\x01\x80", "\x03\x02", ""},
	} {
		a := made(t, c.from, c.to, c.turn)
		if out, rest := pushed(t, a, c.in), drained(t, a); out != c.out || rest != c.rest {
			t.Errorf("%s: %q, then %q, not %q, %q", c.name, out, rest, c.out, c.rest)
		}
	}
}

// shaped are levels as chapter 4 tells them, with noise and shaping, of one channel.
func shaped(bits, seed int, samples []int) (levels []int) {
	s, e, r := 1<<(24-bits), 0, seed
	for _, n := range samples {
		r = (r*1103515245 + 12345) % (1 << 31)
		wanted := n - e
		level := wanted + r%s - s/2
		if level < 0 {
			level = -((-level + s/2) / s)
		} else {
			level = (level + s/2) / s
		}
		ends := 1<<(bits-1) - 1
		level = max(-ends, min(level, ends))
		e = max(-s, min(level*s-wanted, s))
		levels = append(levels, level)
	}
	return levels
}

// Adapters: with a seed 8 and 16 bits are made with noise and shaping, which goes on; 24 and 32 bits are not.
func TestNoise(t *testing.T) {
	from := fixed(api.E24B, 5, mono)
	for encoding := 1; encoding <= 8; encoding++ {
		d := draws(encoding)
		for _, seed := range []int{1, 77, 1<<31 - 1} {
			b := d.block(1, 60)
			to := fixed(encoding, 5, mono)
			a := made(t, from, to, api.Turn{Quality: 1, Seed: seed})
			in := must(sample.Encode(api.E24B, false, b))
			got := pushed(t, a, in[:60]) + drained(t, a) + pushed(t, a, in[60:90]) + pushed(t, a, in[90:])
			want := must(sample.Encode(encoding, false, b))
			if bits(to) <= 16 {
				// The levels as samples have just these levels.
				var l []int
				for _, level := range shaped(bits(to), seed, b[0]) {
					l = append(l, level<<(24-bits(to)))
				}
				want = must(sample.Encode(encoding, false, api.Block{l}))
			}
			if got != want {
				t.Errorf("encoding %d, seed %d: %q, not %q", encoding, seed, got, want)
			}
		}
	}
}

// 9.1, Details: bytes of a frame that is not whole wait; of what is taken at once at most MaxFrames become whole.
func TestWaiting(t *testing.T) {
	for _, to := range []api.Fixed{fixed(api.E16L, 5, stereo), planar(api.E8, 5, mono)} {
		a := made(t, fixed(api.E16L, 5, stereo), to, linear)
		for i, c := range []struct{ push, waits, frames int }{
			{0, 0, 0}, {1, 1, 0}, {1, 2, 0}, {0, 2, 0}, {1, 3, 0}, {1, 0, 1}, {4, 0, 1}, {5, 1, 1}, {6, 3, 1}, {9, 0, 3}, {10, 2, 2},
			{4*api.MaxFrames - 2, 0, api.MaxFrames}, {3, 3, 0}, {4 * api.MaxFrames, 3, api.MaxFrames}, {1, 0, 1}, {4*api.MaxFrames + 3, 3, api.MaxFrames},
		} {
			out := pushed(t, a, strings.Repeat("\x01", c.push))
			if want := c.frames * size(to); len(out) != want || a.Waiting() != c.waits {
				t.Errorf("push %d of %d bytes: %d bytes, %d wait; not %d, %d", i, c.push, len(out), a.Waiting(), want, c.waits)
			}
		}
		fails(t, a, "\x01"+strings.Repeat("\x01", 4*api.MaxFrames), api.ErrLimit)
		if a.Waiting() != 3 {
			t.Errorf("behind ErrLimit %d bytes wait", a.Waiting())
		}
	}
}

// 9.1: texts of MaxText bytes are taken, longer ones are not, whatever else is wrong.
func TestPushLong(t *testing.T) {
	l := must(layout.Usual(8))
	for _, f := range []api.Fixed{fixed(api.E16L, 5, l), planar(api.E32B, 5, l), fixed(api.E24L, 5, l)} {
		for _, to := range []api.Fixed{f, fixed(api.E32L, 5, l)} {
			a := made(t, f, to, linear)
			fails(t, a, strings.Repeat("\x01", api.MaxText+1), api.ErrLong)
			if a.Waiting() != 0 {
				t.Errorf("behind ErrLong %d bytes wait", a.Waiting())
			}
			if out := pushed(t, a, strings.Repeat("\x01", api.MaxText)); len(out) != api.MaxText/size(f)*size(to) {
				t.Errorf("%d bytes come out", len(out))
			}
		}
	}
	small := made(t, planar(api.E8, 5, stereo), fixed(api.E8, 5, mono), linear)
	fails(t, small, strings.Repeat("\x01", api.MaxText+1), api.ErrLong)
	fails(t, small, strings.Repeat("\x01", api.MaxText), api.ErrLimit)
	fails(t, small, strings.Repeat("\x01", api.MaxText-1), api.ErrSize)
	fails(t, nil, strings.Repeat("\x01", api.MaxText+1), api.ErrLong)
	fails(t, nil, strings.Repeat("\x01", api.MaxText), api.ErrInvalid)
}

// 9.1: planar bytes must be whole frames; each Push is a block of its own.
func TestPushPlanar(t *testing.T) {
	f := planar(api.E16L, 5, stereo)
	for _, to := range []api.Fixed{f, fixed(api.E16L, 5, stereo), planar(api.E24B, 10, mono)} {
		a, b := made(t, f, to, linear), made(t, f, to, linear)
		for n := range 13 {
			s := strings.Repeat("\x01\x02\x03", 5)[:n]
			if n%4 != 0 {
				fails(t, a, s, api.ErrSize)
			} else if got, want := pushed(t, a, s), pushed(t, b, s); got != want {
				t.Errorf("%q becomes %q, not %q", s, got, want)
			}
			if a.Waiting() != 0 {
				t.Errorf("%d planar bytes wait", a.Waiting())
			}
		}
	}
	a := made(t, f, planar(api.E8, 5, stereo), linear)
	if got := pushed(t, a, "\x00\x01\x00\x02\x00\x03\x00\x04") + pushed(t, a, "\x00\x05\x00\x06"); got != "\x01\x02\x03\x04\x05\x06" {
		t.Errorf("%q", got)
	}
}

// 9.1: more than MaxFrames in, by each kind of step; nothing is taken.
func TestPushLimitIn(t *testing.T) {
	for _, c := range []struct{ from, to api.Fixed }{
		{fixed(api.E8, 5, mono), fixed(api.E8, 5, mono)}, {planar(api.E8, 5, mono), planar(api.E8, 5, mono)},
		{fixed(api.E8, 5, mono), fixed(api.E16L, 5, stereo)}, {fixed(api.E8, 50, mono), fixed(api.E8, 5, mono)}, {planar(api.E8, 50, stereo), fixed(api.E8, 5, mono)},
	} {
		a := made(t, c.from, c.to, linear)
		n := api.MaxFrames * size(c.from)
		fails(t, a, strings.Repeat("\x01", n+size(c.from)), api.ErrLimit)
		fails(t, a, strings.Repeat("\x01", 2*n), api.ErrLimit)
		if got, want := pushed(t, a, strings.Repeat("\x01", n)), pushed(t, made(t, c.from, c.to, linear), strings.Repeat("\x01", n)); got != want {
			t.Errorf("%v to %v: behind ErrLimit something else comes out", c.from, c.to)
		}
	}
}

// 9.1: more than MaxFrames out; nothing is taken: neither bytes that wait, nor samples, nor noise.
func TestPushLimitOut(t *testing.T) {
	from, turn := fixed(api.E16L, 1, stereo), api.Turn{Quality: 2, Gains: []int{half}, Seed: 5}
	d := draws(5)
	for _, times := range []int{2, 3, 160} {
		to := fixed(api.E16L, times, mono)
		a, b := made(t, from, to, turn), made(t, from, to, turn)
		first, next := d.bytes(4*5+3), d.bytes(4*6+2)
		if got, want := pushed(t, a, first), pushed(t, b, first); got != want {
			t.Errorf("%q, not %q", got, want)
		}
		fails(t, a, d.bytes(4*(api.MaxFrames/times+1)), api.ErrLimit)
		if a.Waiting() != 3 {
			t.Errorf("behind ErrLimit %d bytes wait", a.Waiting())
		}
		if got, want := pushed(t, a, next)+drained(t, a), pushed(t, b, next)+drained(t, b); got != want {
			t.Errorf("1 to %d: behind ErrLimit %q, not %q", times, got, want)
		}
	}
	// 4,096 frames are made of 2,048 and the one that they wait for, 4,098 of one more.
	a := made(t, fixed(api.E8, 1, mono), fixed(api.E8, 2, mono), linear)
	fails(t, a, strings.Repeat("\x01", 2050), api.ErrLimit)
	if out := pushed(t, a, strings.Repeat("\x01", 2049)); len(out) != api.MaxFrames {
		t.Errorf("%d frames come out", len(out))
	}
}

// 9.1, Details: Drain gives what is held, forgets what waits, and begins anew; the adjustment stays, as layer 5 has it.
func TestDrain(t *testing.T) {
	for _, turn := range []api.Turn{linear, cubic} {
		from, to := fixed(api.E16L, 3, mono), fixed(api.E16B, 4, stereo)
		a, b := made(t, from, to, turn), made(t, from, to, turn)
		adjust(t, a, 5000)
		adjust(t, b, 5000)
		pushed(t, a, "\x01\x02\x03\x04\x05\x06\x07")
		if a.Waiting() != 1 || drained(t, a) == "" || drained(t, a) != "" {
			t.Errorf("%d bytes wait", a.Waiting())
		}
		s := strings.Repeat("\x11\x22\x33\x44", 300)
		if got, want := pushed(t, a, s)+drained(t, a), pushed(t, b, s)+drained(t, b); got != want {
			t.Errorf("behind Drain %q, not %q", got, want)
		}
		plain := made(t, from, to, turn)
		if got, want := pushed(t, a, s), pushed(t, plain, s); got == want {
			t.Errorf("behind Drain there is no adjustment")
		}
	}
	for _, to := range []api.Fixed{fixed(api.E16L, 3, mono), planar(api.E8, 3, stereo)} {
		a := made(t, fixed(api.E16L, 3, mono), to, linear)
		pushed(t, a, "\x01\x02\x03")
		if got := drained(t, a); got != "" {
			t.Errorf("Drain without rate = %q", got)
		}
		if got, want := pushed(t, a, "\x05\x06"), pushed(t, made(t, fixed(api.E16L, 3, mono), to, linear), "\x05\x06"); got != want {
			t.Errorf("behind Drain %q, not %q", got, want)
		}
	}
}

// 9.1: what Drain gives to a planar format is a block of its own.
func TestDrainPlanar(t *testing.T) {
	a := made(t, fixed(api.E8, 1, mono), planar(api.E8, 2, stereo), api.Turn{Quality: 1, Gains: []int{one, 2 * one}})
	if got := pushed(t, a, "\x02\x04\x06"); got != "\x02\x03\x04\x05\x04\x06\x08\x0a" {
		t.Errorf("Push = %q", got)
	}
	if got := drained(t, a); got != "\x06\x03\x0c\x06" {
		t.Errorf("Drain = %q", got)
	}
}

// 9.1: errors of Adjust: a number that is none ahead of a step that is none.
func TestAdjust(t *testing.T) {
	with := made(t, fixed(api.E8, 1, mono), fixed(api.E8, 2, mono), linear)
	pass := made(t, fixed(api.E8, 1, mono), fixed(api.E8, 1, mono), linear)
	without := made(t, fixed(api.E8, 1, six), fixed(api.E16L, 1, mono), linear)
	for _, n := range []int{0, 1, -1, 5, 100000, -100000} {
		if e := with.Adjust(n); e != api.OK {
			t.Errorf("Adjust(%d) = %d", n, e)
		}
		for _, a := range []*adapt.Adapter{pass, without} {
			if e := a.Adjust(n); e != api.ErrKind {
				t.Errorf("Adjust(%d) without rate = %d", n, e)
			}
		}
	}
	for _, n := range []int{100001, -100001, api.MaxTime, 1 << 62, -1 << 63, 1<<63 - 1, 1<<32 + 1} {
		for _, a := range []*adapt.Adapter{with, pass, without} {
			if e := a.Adjust(n); e != api.ErrRange {
				t.Errorf("Adjust(%d) = %d", n, e)
			}
		}
		if e := (*adapt.Adapter)(nil).Adjust(n); e != api.ErrInvalid {
			t.Errorf("Adjust(%d) of nil = %d", n, e)
		}
	}
}

// 9.2: Delay is 1 or 2 with the step rate, 0 without it.
func TestDelay(t *testing.T) {
	f := fixed(api.E16L, 48000, stereo)
	for quality := 1; quality <= 2; quality++ {
		turn := api.Turn{Quality: quality}
		for _, c := range []struct {
			to   api.Fixed
			want int
		}{
			{f, 0}, {fixed(api.E8, 48000, mono), 0}, {planar(api.E8, 48000, six), 0}, {fixed(api.E16L, 44100, stereo), quality}, {fixed(api.E16L, 48001, six), quality},
		} {
			if got := made(t, f, c.to, turn).Delay(); got != c.want {
				t.Errorf("Delay to %v, quality %d is %d, not %d", c.to, quality, got, c.want)
			}
		}
	}
}

// 9.2: Frames is the least number not below n times the rates, whatever has come already, and however it is adjusted.
func TestFrames(t *testing.T) {
	for _, c := range []struct{ in, out, n, want int }{
		{44100, 48000, 441, 480}, {44100, 48000, 1, 2}, {48000, 44100, 1, 1}, {48000, 44100, 480, 441}, {48000, 44100, 481, 442}, {1, 160, 3, 480}, {160, 1, 161, 2},
		{1, 1, 7, 7}, {5, 5, api.MaxTime, api.MaxTime}, {api.MaxRate, api.MaxRate, api.MaxTime, api.MaxTime}, {1, 2, 0, 0},
		{1200, api.MaxRate, api.MaxTime, 160 * api.MaxTime}, {api.MaxRate, 1200, api.MaxTime, api.MaxTime / 160},
	} {
		a := made(t, fixed(api.E16L, c.in, stereo), planar(api.E8, c.out, mono), linear)
		pushed(t, a, "\x01\x02\x03\x04\x05\x06\x07\x08\x09")
		if e := a.Adjust(100000); e != api.OK && c.in != c.out {
			t.Errorf("Adjust = %d", e)
		}
		if n, e := a.Frames(c.n); n != c.want || e != api.OK {
			t.Errorf("Frames(%d) of %d to %d = %d, %d, not %d", c.n, c.in, c.out, n, e, c.want)
		}
	}
	for _, f := range []api.Fixed{fixed(api.E16L, 5, stereo), fixed(api.E16L, 6, stereo), fixed(api.E16L, 5, mono)} {
		a := made(t, fixed(api.E16L, 5, stereo), f, linear)
		for _, n := range append(noNumbers(), api.MaxTime+1) {
			if got, e := a.Frames(n); got != 0 || e != api.ErrRange {
				t.Errorf("Frames(%d) = %d, %d", n, got, e)
			}
		}
	}
}
