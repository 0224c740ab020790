package volume_test

import (
	"slices"
	"testing"

	"continuo/api"
	"continuo/volume"
)

// 6.3: sums are bounded once, when all blocks are in them.
func TestMixByHand(t *testing.T) {
	for _, c := range []struct {
		l    []api.Block
		want api.Block
	}{
		{[]api.Block{{{most}}, {{5}}, {{-8}}}, api.Block{{most - 3}}},
		{[]api.Block{{{most, -most}}, {{most, -most}}, {{-most, most}}}, api.Block{{most, -most}}},
		{[]api.Block{{{most, -most, most}}, {{1, -1, -1}}}, api.Block{{most, -most, most - 1}}},
		{[]api.Block{{{1, 2}, {3, 4}}, {{10, 20}, {30, -40}}}, api.Block{{11, 22}, {33, -36}}},
		{[]api.Block{{{}, {}}, {{}, {}}}, api.Block{{}, {}}},
	} {
		if got := mixed(t, c.l); !same(got, c.want) {
			t.Errorf("Mix(%v) = %v, not %v", c.l, got, c.want)
		}
	}
	got := mixed(t, slices.Repeat([]api.Block{filled(8, api.MaxFrames, -most)}, 40))
	if !same(got, filled(8, api.MaxFrames, -most)) {
		t.Errorf("Mix of the loudest blocks is not as loud as can be")
	}
	got = mixed(t, append(slices.Repeat([]api.Block{{{most}}}, 20), slices.Repeat([]api.Block{{{-most}}}, 20)...))
	if !same(got, api.Block{{0}}) {
		t.Errorf("Mix of what is turned round = %v", got)
	}
}

// 6.3, P6.4: Mix is what the chapter tells, and does not hang on the order.
func TestMixDrawn(t *testing.T) {
	for seed := range 400 {
		d := draws(seed)
		channels, frames := d.channels(), d.below(30)
		l := d.blocks(d.below(40)+1, channels, frames)
		want := filled(channels, frames, 0)
		for c, row := range want {
			for i := range row {
				for _, b := range l {
					row[i] += b[c][i]
				}
				row[i] = clamped(row[i], most)
			}
		}
		if got := mixed(t, l); !same(got, want) {
			t.Fatalf("Mix(%v) = %v, not %v", l, got, want)
		}
		slices.Reverse(l)
		for range 3 {
			i, k := d.below(len(l)), d.below(len(l))
			l[i], l[k] = l[k], l[i]
			if got := mixed(t, l); !same(got, want) {
				t.Fatalf("Mix(%v) = %v, not %v", l, got, want)
			}
		}
	}
}

// P6.4: one block mixed is itself.
func TestMixOfOne(t *testing.T) {
	for seed := range 100 {
		d := draws(seed)
		b := d.block(d.channels(), []int{0, 1, d.below(50), api.MaxFrames}[d.below(4)])
		if got := mixed(t, []api.Block{b}); !same(got, b) {
			t.Fatalf("Mix of %v alone = %v", b, got)
		}
	}
}

// 6.3, Details, R2: ErrInvalid, ErrSize, ErrNone, ErrLimit, each of all blocks before the next one.
func TestMixErrors(t *testing.T) {
	wrong := func(want api.Errno, l ...api.Block) {
		t.Helper()
		if out, e := volume.Mix(l); e != want || len(out) != 0 {
			t.Errorf("Mix(%d blocks) = %d channels, %d, not %d", len(l), len(out), e, want)
		}
	}
	b := filled(2, 3, 1)
	many := slices.Repeat([]api.Block{b}, 41)
	for _, bad := range invalidBlocks() {
		wrong(api.ErrInvalid, bad)
		wrong(api.ErrInvalid, bad, bad)
		wrong(api.ErrInvalid, b, bad)
		wrong(api.ErrInvalid, b, filled(1, 3, 1), bad)
		wrong(api.ErrInvalid, append(slices.Clone(many), bad)...)
	}
	for _, other := range []api.Block{filled(1, 3, 1), filled(3, 3, 1), filled(2, 2, 1), filled(2, 4, 1), filled(2, 0, 1)} {
		wrong(api.ErrSize, b, other)
		wrong(api.ErrSize, other, b)
		wrong(api.ErrSize, b, b, other, b)
		wrong(api.ErrSize, append(slices.Clone(many), other)...)
		wrong(api.ErrSize, append([]api.Block{other}, many...)...)
	}
	wrong(api.ErrNone)
	wrong(api.ErrLimit, many...)
	wrong(api.ErrLimit, slices.Repeat(many, 100)...)
	mixed(t, many[:40])
}

// 6.3: frames where any channel of the other sound is at or above the bound, taken above 0, have the gain; others stay.
func TestDuckByHand(t *testing.T) {
	for _, c := range []struct {
		b, by       api.Block
		bound, gain int
		want        api.Block
	}{
		{api.Block{{10, 10}}, api.Block{{0, 1}, {-5, 2}}, 5, 0, api.Block{{0, 10}}},
		{api.Block{{10, 10, 10, 10, 10}, {-1, 2, 3, 4, most}}, api.Block{{4, 5, 6, -5, -4}}, 5, half, api.Block{{10, 5, 5, 5, 10}, {-1, 1, 2, 2, most}}},
		{api.Block{{1, 2, 3}}, api.Block{{0, most, -most}}, most, top, api.Block{{1, 20, 30}}},
		{api.Block{{1, 2, 3}}, api.Block{{0, most - 1, 1 - most}}, most, 0, api.Block{{1, 2, 3}}},
		{api.Block{{1, 2, most}}, api.Block{{0, 0, 0}, {0, 0, 0}}, 0, 2 * one, api.Block{{2, 4, most}}},
		{api.Block{{1, 2, 3}}, api.Block{{0, 1, -1}}, 1, 0, api.Block{{1, 0, 0}}},
		{api.Block{{7, 7, 7}}, api.Block{{9, 0, 0}, {0, 9, 0}, {0, 0, 8}}, 9, 0, api.Block{{0, 0, 7}}},
		{api.Block{{5, 6}, {7, 8}}, api.Block{{most, most}}, 1, one, api.Block{{5, 6}, {7, 8}}},
		{api.Block{{}}, api.Block{{}, {}}, 0, 0, api.Block{{}}},
	} {
		if got := ducked(t, c.b, c.by, c.bound, c.gain); !same(got, c.want) {
			t.Errorf("Duck(%v, %v, %d, %d) = %v, not %v", c.b, c.by, c.bound, c.gain, got, c.want)
		}
	}
}

// 6.3: Duck is what the chapter tells, over many blocks of any channels.
func TestDuckDrawn(t *testing.T) {
	for seed := range 500 {
		d := draws(seed)
		frames := d.below(40)
		b, by := d.block(d.channels(), frames), d.block(d.channels(), frames)
		bound, gain := []int{0, 1, 2, 3, 500, d.below(most + 1), most}[d.below(7)], d.gain()
		want := part(b, 0, frames)
		for i := range frames {
			loudest := 0
			for _, channel := range by {
				loudest = max(loudest, channel[i], -channel[i])
			}
			for _, row := range want {
				if loudest >= bound {
					row[i] = louder(row[i], gain)
				}
			}
		}
		if got := ducked(t, b, by, bound, gain); !same(got, want) {
			t.Fatalf("Duck(%v, %v, %d, %d) = %v, not %v", b, by, bound, gain, got, want)
		}
	}
}

// 6.3, R2: ErrInvalid of either block, then ErrRange, then ErrSize.
func TestDuckErrors(t *testing.T) {
	wrong := func(b, by api.Block, bound, gain int, want api.Errno) {
		t.Helper()
		if out, e := volume.Duck(b, by, bound, gain); e != want || len(out) != 0 {
			t.Errorf("Duck(.., %d, %d) = %d channels, %d, not %d", bound, gain, len(out), e, want)
		}
	}
	b, other := filled(2, 3, 1), filled(2, 4, 1)
	for _, bad := range invalidBlocks() {
		wrong(bad, b, 5, 5, api.ErrInvalid)
		wrong(b, bad, 5, 5, api.ErrInvalid)
		wrong(b, bad, -1, -1, api.ErrInvalid)
		wrong(bad, bad, 5, 5, api.ErrInvalid)
	}
	for _, n := range []int{-1, most + 1, -most, 1 << 32, -1 << 63, 1<<63 - 1} {
		wrong(b, b, n, 5, api.ErrRange)
		wrong(b, other, n, 5, api.ErrRange)
	}
	for _, n := range noGains() {
		wrong(b, b, 5, n, api.ErrRange)
		wrong(b, other, 5, n, api.ErrRange)
	}
	for _, frames := range []int{0, 2, 4, api.MaxFrames} {
		wrong(b, filled(2, frames, 9), 5, 5, api.ErrSize)
		wrong(filled(2, frames, 9), b, 5, 5, api.ErrSize)
	}
	ducked(t, filled(8, api.MaxFrames, most), filled(1, api.MaxFrames, -most), most, top)
	ducked(t, filled(1, api.MaxFrames, most), filled(8, api.MaxFrames, -most), 0, 0)
}
