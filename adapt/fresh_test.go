package adapt_test

import (
	"slices"
	"strings"
	"testing"

	"continuo/adapt"
	"continuo/api"
)

// roomy returns a list that shares nothing with l, and has room to spare, with marks in it.
func roomy(l []int) []int {
	out := append(make([]int, 0, len(l)+3), l...)
	for i := len(l); i < cap(out); i++ {
		out[:cap(out)][i] = 77
	}
	return out
}

func roomyBlock(b api.Block) api.Block {
	out := make(api.Block, 0, len(b)+2)
	for _, channel := range b {
		out = append(out, roomy(channel))
	}
	out[:cap(out)][len(out)] = []int{78}
	return out
}

// roomLeft reports whether a list and its room to spare are as roomy made them of l.
func roomLeft(got, l []int) bool {
	return slices.Equal(got, l) && !slices.ContainsFunc(got[len(got):cap(got)], func(n int) bool { return n != 77 })
}

func unspoilt(got, b api.Block) bool {
	if !slices.Equal(got[:cap(got)][len(got)], []int{78}) || got[:cap(got)][len(got)+1] != nil {
		return false
	}
	return slices.EqualFunc(got, b, roomLeft)
}

// spoil writes over rows, their room to spare too.
func spoil(rows [][]int, n int) {
	for _, row := range rows {
		all := row[:cap(row)]
		for i := range all {
			all[i] = n
		}
	}
}

// alone reports whether no two rows share memory: each is written over with a number of its own.
func alone(rows [][]int) bool {
	for i := range rows {
		spoil(rows[i:i+1], 1000+i)
	}
	for i, row := range rows {
		if slices.ContainsFunc(row, func(n int) bool { return n != 1000+i }) {
			return false
		}
	}
	return true
}

// given are layouts and gains with room to spare.
type given struct{ from, to, gains []int }

func (g given) roomy() given { return given{roomy(g.from), roomy(g.to), roomy(g.gains)} }

func (g given) unspoilt(by given) bool {
	return roomLeft(by.from, g.from) && roomLeft(by.to, g.to) && roomLeft(by.gains, g.gains)
}

func (g given) spoil() { spoil([][]int{g.from, g.to, g.gains}, 9) }

// P9.1, R4: New and Block leave what they are given as it is; an adapter keeps none of it.
func TestFresh(t *testing.T) {
	for _, g := range []given{
		{mono, mono, nil}, {mono, mono, []int{half}}, {stereo, mono, []int{half}}, {mono, stereo, []int{half, top}}, {stereo, []int{api.PFR, api.PFL}, nil},
		{stereo, stereo, []int{0, half}}, {six, stereo, []int{one, half}}, {stereo, six, nil}, {six, six, []int{one, one, one, one, one, one}},
	} {
		for _, rate := range []int{5, 7} {
			call := func(g given) (api.Fixed, api.Fixed, api.Turn) {
				return fixed(api.E16L, 5, g.from), fixed(api.E16L, rate, g.to), api.Turn{Quality: 2, Gains: g.gains, Seed: 3}
			}
			s := strings.Repeat("\x01\x12\x03\x24\x05\x36\x07\x48\x09\x5a\x0b\x6c", 10)
			from, to, turn := call(g)
			plain := made(t, from, to, turn)
			want := pushed(t, plain, s) + drained(t, plain)
			x := g.roomy()
			from, to, turn = call(x)
			a := made(t, from, to, turn)
			adapt.Valid(from)
			adapt.ValidTurn(to, turn)
			adapt.Frame(from)
			if !g.unspoilt(x) {
				t.Errorf("New spoils %v", x)
			}
			x.spoil()
			if got := pushed(t, a, s) + drained(t, a); got != want {
				t.Errorf("%v: an adapter keeps what New was given", g)
			}
			freshBlock(t, g, rate)
		}
	}
}

// freshBlock asks what Block makes of memory with room to spare.
func freshBlock(t *testing.T, g given, rate int) {
	t.Helper()
	first := api.Block{{1, -2, 3}, {4, 5, -most}, {7, 8, 9}, {10, 11, 12}, {13, 14, 15}, {16, 17, 18}}[:len(g.from)]
	x, b := g.roomy(), roomyBlock(first)
	from, to := fixed(api.E16L, 5, x.from), fixed(api.E16L, rate, x.to)
	got := blocked(t, from, to, api.Turn{Quality: 2, Gains: x.gains}, b)
	if !unspoilt(b, first) || !g.unspoilt(x) || !alone(got) || !unspoilt(b, first) {
		t.Errorf("Block of %v shares memory", g)
	}
}

// P9.1, R4: what Steps gives is its own.
func TestFreshSteps(t *testing.T) {
	a := made(t, fixed(api.E16L, 5, stereo), fixed(api.E16L, 6, mono), linear)
	l := a.Steps()
	for i := range l[:cap(l)] {
		l[:cap(l)][i] = "pass"
	}
	if got := strings.Join(a.Steps(), " "); got != "decode mix rate encode" {
		t.Errorf("Steps = %s", got)
	}
}

// 9.2: a copy has all that the adapter has, and neither changes the other one.
func TestCopy(t *testing.T) {
	for _, turn := range []api.Turn{linear, {Quality: 2, Seed: 9}, {Quality: 2, Gains: []int{half}, Seed: 9}} {
		for _, rate := range []int{5, 7} {
			from, to := fixed(api.E16L, 5, stereo), fixed(api.E8, rate, mono)
			a := made(t, from, to, turn)
			a.Adjust(7000)
			s := strings.Repeat("\x01\x12\x03\x24\x05\x36\x07", 20)
			pushed(t, a, s[:43])
			c, x := a.Copy(), a.Copy()
			want := pushed(t, a, s) + drained(t, a)
			a.Adjust(-9000)
			pushed(t, a, s[:29])
			l := c.Steps()
			if c.Waiting() != 3 || a.Waiting() != 1 || c.Delay() != a.Delay() || !slices.Equal(l, a.Steps()) {
				t.Errorf("a copy: %d bytes wait, %v", c.Waiting(), l)
			}
			if got := pushed(t, c, s) + drained(t, c); got != want {
				t.Errorf("%v: a copy gives %q, not %q", l, got, want)
			}
			if got := pushed(t, x, s) + drained(t, x); got != want {
				t.Errorf("%v: a copy behind another one gives %q, not %q", l, got, want)
			}
			if n, e := c.Frames(10); n != 2*rate || e != api.OK {
				t.Errorf("Frames of a copy = %d, %d", n, e)
			}
		}
	}
}

// 9.2: a copy passes on, and refuses, what the adapter does.
func TestCopyPlanar(t *testing.T) {
	f := planar(api.E16L, 5, stereo)
	c := made(t, f, f, linear).Copy()
	fails(t, c, "\x01\x02", api.ErrSize)
	if got := pushed(t, c, "\x01\x02\x03\x04"); got != "\x01\x02\x03\x04" {
		t.Errorf("Push = %q", got)
	}
	if e := c.Adjust(1); e != api.ErrKind {
		t.Errorf("Adjust = %d", e)
	}
}

// R5: calls of an adapter that is none, or that New did not make.
func TestNoAdapter(t *testing.T) {
	for _, a := range []*adapt.Adapter{nil, {}, new(adapt.Adapter).Copy()} {
		for _, s := range []string{"", "a", strings.Repeat("a", api.MaxText)} {
			fails(t, a, s, api.ErrInvalid)
		}
		fails(t, a, strings.Repeat("a", api.MaxText+1), api.ErrLong)
		if out, e := a.Drain(); out != "" || e != api.ErrInvalid {
			t.Errorf("Drain = %q, %d", out, e)
		}
		for _, n := range append(noNumbers(), 0, 5) {
			if e := a.Adjust(n); e != api.ErrInvalid {
				t.Errorf("Adjust(%d) = %d", n, e)
			}
			if got, e := a.Frames(n); got != 0 || e != api.ErrInvalid {
				t.Errorf("Frames(%d) = %d, %d", n, got, e)
			}
		}
		if len(a.Steps()) != 0 || a.Waiting() != 0 || a.Delay() != 0 {
			t.Errorf("steps %v, %d wait, delay %d", a.Steps(), a.Waiting(), a.Delay())
		}
	}
	var a *adapt.Adapter
	if a.Copy() != nil {
		t.Errorf("a copy of nil is not nil")
	}
}

// P9.1, R1: every call ends, and none panics, whatever it is given; R3: beside an error is nothing.
func TestAllCallsEnd(t *testing.T) {
	formats := append(invalidFixed(), fixed(api.E8, 1, mono), planar(api.E32B, 160, six), fixed(api.E16L, api.MaxRate, stereo), fixed(api.E8, 3, stereo))
	turns := append(invalidTurns(), linear, cubic, api.Turn{Quality: 1, Gains: []int{0, top}, Seed: 7}, api.Turn{Quality: 2, Seed: 1<<31 - 1})
	blocks := append(invalidBlocks(), filled(1, 0, 0), filled(6, 5, most), filled(2, api.MaxFrames, -most))
	texts := []string{"", "\x80", strings.Repeat("\x80", 24), strings.Repeat("\x80", api.MaxText), strings.Repeat("\x80", api.MaxText+1)}
	for _, from := range formats {
		adapt.Valid(from)
		adapt.Frame(from)
		for _, to := range formats {
			for _, turn := range turns {
				adapt.ValidTurn(to, turn)
				a, e := adapt.New(from, to, turn)
				if (a == nil) != (e != api.OK) {
					t.Errorf("New = %v, %d", a, e)
				}
				if a == nil {
					continue
				}
				for _, s := range texts {
					if out, e := a.Push(s); e != api.OK && out != "" {
						t.Errorf("Push = %q, %d", out, e)
					}
					a.Copy().Drain()
				}
				a.Drain()
				for _, b := range blocks {
					if out, e := adapt.Block(from, to, turn, b); e != api.OK && len(out) != 0 {
						t.Errorf("Block = %v, %d", out, e)
					}
				}
			}
		}
	}
}
