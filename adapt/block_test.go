package adapt_test

import (
	"testing"

	"continuo/adapt"
	"continuo/api"
	"continuo/layout"
	"continuo/resample"
	"continuo/sample"
	"continuo/volume"
)

// 9.2: blocks as they follow from the chapters at a glance; encodings, planes and seeds change nothing.
func TestBlockByHand(t *testing.T) {
	for _, c := range []struct {
		from, to []int
		in, out  int
		turn     api.Turn
		b, want  api.Block
	}{
		{mono, mono, 5, 5, linear, api.Block{{1, -most, 3}}, api.Block{{1, -most, 3}}},
		{stereo, mono, 5, 5, linear, api.Block{{3, most}, {4, most}}, api.Block{{4, most}}},
		{mono, stereo, 5, 5, linear, api.Block{{3, 4}}, api.Block{{3, 4}, {3, 4}}},
		{mono, mono, 1, 2, linear, api.Block{{0, 10}}, api.Block{{0, 5, 10, 5}}},
		{mono, mono, 1, 2, cubic, api.Block{{0, 16}}, api.Block{{0, 9, 16, 9}}},
		{mono, mono, 2, 1, cubic, api.Block{{1, 2, 3}}, api.Block{{1, 3}}},
		{stereo, mono, 1, 2, api.Turn{Quality: 1, Gains: []int{2 * one}}, api.Block{{3, 0}, {4, 0}}, api.Block{{8, 4, 0, 0}}},
		{mono, stereo, 1, 2, api.Turn{Quality: 1, Gains: []int{0, half}}, api.Block{{3, 0}}, api.Block{{0, 0, 0, 0}, {2, 1, 0, 0}}},
		{stereo, mono, 3, 4, linear, api.Block{{}, nil}, api.Block{{}}},
		{stereo, stereo, 3, 3, linear, api.Block{nil, {}}, api.Block{{}, {}}},
		{[]int{api.PLFE}, stereo, 3, 3, linear, api.Block{{one}}, api.Block{{23170}, {23170}}},
		{[]int{api.PFL, api.PFC}, stereo, 3, 3, linear, api.Block{{one}, {one}}, api.Block{{65535}, {46341}}},
		{[]int{api.PFL}, []int{api.PRL}, 3, 3, linear, api.Block{{5, 6}}, api.Block{{0, 0}}},
	} {
		for encoding := 1; encoding <= 8; encoding++ {
			from, to := planar(9-encoding, c.in, c.from), fixed(encoding, c.out, c.to)
			for _, c.turn.Seed = range []int{0, 5} {
				if got := blocked(t, from, to, c.turn, c.b); !same(got, c.want) {
					t.Errorf("%v to %v, %v, of %v: %v, not %v", from, to, c.turn, c.b, got, c.want)
				}
			}
		}
	}
}

// inSteps does with a block what the chapter tells, by the calls of the lower layers.
func inSteps(from, to api.Fixed, turn api.Turn, b api.Block) (api.Block, api.Errno) {
	m := newTold(from, to, api.Turn{Quality: 1, Gains: turn.Gains})
	b = m.fewer(b)
	if from.Rate != to.Rate {
		var e api.Errno
		if b, e = resample.Whole(from.Rate, to.Rate, turn.Quality, b); e != api.OK {
			return nil, e
		}
	}
	return m.louder(m.more(b)), api.OK
}

// 9.2, P9.2: Block is the steps between, one behind the other, resampling as Whole.
func TestBlockDrawn(t *testing.T) {
	limits := 0
	for seed := range 2000 {
		d := draws(seed)
		from, to := d.pair()
		turn := d.turn(to)
		b := d.block(len(from.Layout), []int{0, 1, d.below(20), d.below(200), d.below(api.MaxFrames + 1)}[d.below(5)])
		want, e := inSteps(from, to, turn, b)
		got, gotE := adapt.Block(from, to, turn, b)
		if gotE != e || !same(got, want) {
			t.Fatalf("%v to %v, %v, of %d frames: %d, not %d", from, to, turn, len(b[0]), gotE, e)
		}
		if e == api.ErrLimit {
			limits++
		}
	}
	if limits == 0 {
		t.Errorf("no block is too long")
	}
}

// P7, 9.2: with samples as bytes, an adapter does with a sound what Block does.
func TestBlockAndAdapter(t *testing.T) {
	for seed := range 500 {
		d := draws(seed)
		from, to := d.pair()
		from.Encoding, to.Encoding = api.E24L, api.E32B
		turn := d.turn(to)
		b := d.block(len(from.Layout), d.below(min(100, room(from, to))))
		if len(b[0]) == 0 || size(from)*len(b[0]) > api.MaxText {
			continue
		}
		a := made(t, from, to, turn)
		s := must(sample.Encode(from.Encoding, from.Planar, b))
		read := func(s string) api.Block {
			return must(sample.Decode(to.Encoding, to.Planar, len(to.Layout), s))
		}
		got := behind(read(pushed(t, a, s)), read(drained(t, a)))
		if want := blocked(t, from, to, turn, b); !same(got, want) {
			t.Fatalf("%v to %v, %v: %v, not %v", from, to, turn, got, want)
		}
	}
}

// 9.2, R2: a block that is not valid, then other numbers of channels, then rates, then limits.
func TestBlockErrors(t *testing.T) {
	near, far := fixed(api.E16L, 160, mono), fixed(api.E16L, 161, mono)
	from := fixed(api.E16L, 1, stereo)
	check := func(to api.Fixed, b api.Block, want api.Errno) {
		t.Helper()
		if out, e := adapt.Block(from, to, linear, b); len(out) != 0 || e != want {
			t.Errorf("Block = %d channels, %d, not %d", len(out), e, want)
		}
	}
	for _, b := range invalidBlocks() {
		check(far, b, api.ErrInvalid)
		check(near, b, api.ErrInvalid)
		check(from, b, api.ErrInvalid)
	}
	for _, channels := range []int{1, 3, 8} {
		check(far, filled(channels, 100, 1), api.ErrSize)
		check(near, filled(channels, 100, 1), api.ErrSize)
		check(from, filled(channels, 100, 1), api.ErrSize)
	}
	check(far, filled(2, 100, 1), api.ErrKind)
	check(far, filled(2, 0, 1), api.ErrKind)
	check(near, filled(2, 26, 1), api.ErrLimit)
	if out := blocked(t, from, near, linear, filled(2, 25, 7)); len(out[0]) != 4000 {
		t.Errorf("%d frames", len(out[0]))
	}
}

// 9.2: the longest blocks, and what all frames together are beyond.
func TestBlockEnds(t *testing.T) {
	f := fixed(api.E8, 5, six)
	for _, to := range []api.Fixed{f, planar(api.E8, 5, mono), fixed(api.E8, 4, stereo)} {
		out := blocked(t, f, to, cubic, filled(6, api.MaxFrames, most))
		if want := must(resample.Frames(f.Rate, to.Rate, api.MaxFrames)); len(out[0]) != want || !layout.ValidBlock(out) {
			t.Errorf("%d frames, not %d", len(out[0]), want)
		}
	}
	// 2,049 frames give 4,096 at once, and two more behind them.
	up := fixed(api.E8, 10, six)
	if _, e := adapt.Block(f, up, linear, filled(6, 2049, 1)); e != api.ErrLimit {
		t.Errorf("Block of 2,049 frames = %d", e)
	}
	if out := blocked(t, f, up, linear, filled(6, 2048, 1)); len(out[0]) != api.MaxFrames {
		t.Errorf("%d frames", len(out[0]))
	}
}

// Adapters: gains are layer 6's, each channel its own.
func TestBlockGains(t *testing.T) {
	d := draws(6)
	for range 300 {
		l := d.layout()
		f := fixed(api.E16L, 5, l)
		b, turn := d.block(len(l), 30), api.Turn{Quality: 1}
		var want api.Block
		for i := range l {
			gain := d.below(top + 1)
			turn.Gains = append(turn.Gains, gain)
			want = append(want, must(volume.Apply(gain, b[i:i+1]))[0])
		}
		if got := blocked(t, f, f, turn, b); !same(got, want) {
			t.Fatalf("gains %v of %v: %v, not %v", turn.Gains, b, got, want)
		}
	}
}
