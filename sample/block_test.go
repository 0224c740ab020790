package sample_test

import (
	"math/big"
	"slices"
	"testing"

	"continuo/api"
	"continuo/sample"
)

// power is the sum of the squares rounded by how many there are, by numbers of any length.
func power(channel []int) int {
	if len(channel) == 0 {
		return 0
	}
	sum := new(big.Int)
	for _, n := range channel {
		sum.Add(sum, new(big.Int).Mul(big.NewInt(int64(n)), big.NewInt(int64(n))))
	}
	count := big.NewInt(int64(len(channel)))
	sum.Lsh(sum, 1).Add(sum, count)
	return int(sum.Div(sum, count.Lsh(count, 1)).Int64())
}

// 4.3: the greatest sample above 0, and the sum of the squares rounded by the frames.
func TestPeakAndPowerByHand(t *testing.T) {
	const top = api.MaxSample
	for _, c := range []struct {
		b           api.Block
		peak, power []int
	}{
		{api.Block{{}}, []int{0}, []int{0}},
		{api.Block{nil, nil, {}}, []int{0, 0, 0}, []int{0, 0, 0}},
		{api.Block{{0}}, []int{0}, []int{0}},
		{api.Block{{-5}, {4}}, []int{5, 4}, []int{25, 16}},
		{api.Block{{1, 2}, {-1, -1}, {0, -1}, {1, 0}}, []int{2, 1, 1, 1}, []int{3, 1, 1, 1}},
		{api.Block{{1, 0, 0}, {1, 1, 0}, {-9, 3, 4}, {0, 0, 0}}, []int{1, 1, 9, 0}, []int{0, 1, 35, 0}},
		{api.Block{{-top, top}, {127, -top}}, []int{top, top}, []int{top * top, (127*127 + top*top) / 2}},
	} {
		if l, e := sample.Peak(c.b); !slices.Equal(l, c.peak) || e != api.OK {
			t.Errorf("Peak(%v) = %v, %d", c.b, l, e)
		}
		if l, e := sample.Power(c.b); !slices.Equal(l, c.power) || e != api.OK {
			t.Errorf("Power(%v) = %v, %d", c.b, l, e)
		}
	}
}

// 4.3: Peak and Power over many blocks, the greatest among them.
func TestPeakAndPower(t *testing.T) {
	d := draws(50)
	blocks := []api.Block{filled(8, api.MaxFrames, api.MaxSample), filled(8, api.MaxFrames, -api.MaxSample)}
	for range 1000 {
		blocks = append(blocks, d.block(d.channels(), d.below(12)))
	}
	for _, b := range blocks {
		peaks, e := sample.Peak(b)
		powers, e2 := sample.Power(b)
		if e != api.OK || e2 != api.OK || len(peaks) != len(b) || len(powers) != len(b) {
			t.Fatalf("%d channels: %v, %d, %v, %d", len(b), peaks, e, powers, e2)
		}
		for i, channel := range b {
			sorted := slices.Sorted(slices.Values(append(slices.Clone(channel), 0)))
			if want := max(-sorted[0], sorted[len(sorted)-1]); peaks[i] != want || powers[i] != power(channel) {
				t.Fatalf("%v: %d, %d, want %d, %d", channel, peaks[i], powers[i], want, power(channel))
			}
		}
	}
}

// 4.3: Cut returns the frames from one up to before another one.
func TestCut(t *testing.T) {
	d := draws(51)
	for channels := 1; channels <= api.MaxChannels; channels++ {
		for frames := range 7 {
			b := d.block(channels, frames)
			for from := -2; from <= frames+2; from++ {
				for to := -2; to <= frames+2; to++ {
					got, e := sample.Cut(b, from, to)
					if from < 0 || to > frames || from > to {
						if e != api.ErrRange || len(got) != 0 {
							t.Errorf("Cut(%v, %d, %d) = %v, %d", b, from, to, got, e)
						}
						continue
					}
					var want api.Block
					for _, channel := range b {
						want = append(want, channel[from:to])
					}
					if e != api.OK || !same(got, want) {
						t.Errorf("Cut(%v, %d, %d) = %v, %d", b, from, to, got, e)
					}
				}
			}
		}
	}
	whole := d.block(8, api.MaxFrames)
	if got := cut(t, whole, 0, api.MaxFrames); !same(got, whole) {
		t.Errorf("the whole is not what is cut from it")
	}
}

// 4.3: ErrInvalid, then ErrRange.
func TestCutErrors(t *testing.T) {
	for i, b := range invalidBlocks() {
		for _, to := range []int{0, 1, -1, 1 << 62} {
			if got, e := sample.Cut(b, 0, to); e != api.ErrInvalid || len(got) != 0 {
				t.Errorf("Cut of the invalid block %d = %d", i, e)
			}
		}
	}
	for _, c := range [][2]int{{0, 1 << 62}, {-1 << 63, 0}, {1<<63 - 1, 1<<63 - 1}, {-1 << 63, -1 << 63}, {1<<63 - 1, 0}, {2, 1}, {0, 4}, {4, 4}} {
		if got, e := sample.Cut(api.Block{{1, 2, 3}}, c[0], c[1]); e != api.ErrRange || len(got) != 0 {
			t.Errorf("Cut(%v) = %v, %d", c, got, e)
		}
	}
}

// 4.3: Join puts blocks one behind the other: what is cut is joined again.
func TestJoin(t *testing.T) {
	for _, c := range []struct {
		l    []api.Block
		want api.Block
	}{
		{[]api.Block{{{1, 2}, {3, 4}}, {{5}, {6}}}, api.Block{{1, 2, 5}, {3, 4, 6}}},
		{[]api.Block{{{}}, {nil}}, api.Block{{}}}, {[]api.Block{{{1}}}, api.Block{{1}}},
		{[]api.Block{{{}}, {{7}}, {{}}, {{7}}}, api.Block{{7, 7}}},
	} {
		if got, e := sample.Join(c.l); e != api.OK || !same(got, c.want) {
			t.Errorf("Join(%v) = %v, %d", c.l, got, e)
		}
	}
	d := draws(52)
	for range 500 {
		b := d.block(d.channels(), d.below(30))
		var l []api.Block
		cuts := d.cuts(len(b[0]))
		for i, to := range cuts[1:] {
			l = append(l, cut(t, b, cuts[i], to))
		}
		if got, e := sample.Join(l); e != api.OK || !same(got, b) {
			t.Fatalf("%v, cut at %v, joined: %v, %d", b, cuts, got, e)
		}
	}
}

// 4.3, R2: ErrInvalid of any block, then ErrSize, then ErrLimit.
func TestJoinErrors(t *testing.T) {
	big, one, two := api.Block(filled(1, api.MaxFrames, 1)), api.Block{{1}}, api.Block{{1}, {2}}
	for _, c := range []struct {
		l    []api.Block
		want api.Errno
	}{
		{nil, api.ErrSize}, {[]api.Block{}, api.ErrSize},
		{[]api.Block{one, two}, api.ErrSize}, {[]api.Block{two, two, one}, api.ErrSize}, {[]api.Block{one, {{}, {}}}, api.ErrSize},
		{[]api.Block{big, big, two}, api.ErrSize}, {[]api.Block{two, big, big}, api.ErrSize},
		{[]api.Block{big, one}, api.ErrLimit}, {[]api.Block{one, big}, api.ErrLimit}, {[]api.Block{big, {{}}, one}, api.ErrLimit},
		{slices.Repeat([]api.Block{big}, 1000), api.ErrLimit},
		{[]api.Block{big}, api.OK}, {[]api.Block{big, {{}}}, api.OK}, {slices.Repeat([]api.Block{one}, api.MaxFrames), api.OK},
		{slices.Repeat([]api.Block{one}, api.MaxFrames+1), api.ErrLimit}, {slices.Repeat([]api.Block{{{}}}, 100000), api.OK},
	} {
		got, e := sample.Join(c.l)
		if e != c.want || e != api.OK && len(got) != 0 {
			t.Errorf("Join of %d blocks = %d, want %d", len(c.l), e, c.want)
		}
	}
	for i, b := range invalidBlocks() {
		for _, l := range [][]api.Block{{b}, {one, b}, {b, one}, {one, two, b}, {big, big, b}, {big, one, two, b}} {
			if got, e := sample.Join(l); e != api.ErrInvalid || len(got) != 0 {
				t.Errorf("Join with the invalid block %d of %d = %d", i, len(l), e)
			}
		}
	}
}

// 4.3, R2: Peak and Power tell ErrInvalid.
func TestMeasureErrors(t *testing.T) {
	for i, b := range invalidBlocks() {
		if l, e := sample.Peak(b); len(l) != 0 || e != api.ErrInvalid {
			t.Errorf("Peak of the invalid block %d = %v, %d", i, l, e)
		}
		if l, e := sample.Power(b); len(l) != 0 || e != api.ErrInvalid {
			t.Errorf("Power of the invalid block %d = %v, %d", i, l, e)
		}
	}
}

// 4.3, Details: Same compares blocks as they are, valid or not; nil and empty are alike (R4).
func TestSame(t *testing.T) {
	const far = 1<<63 - 1
	kinds := [][]api.Block{
		{nil, {}}, {{nil}, {{}}}, {{nil, nil}, {{}, {}}, {{}, nil}}, {{{1}}}, {{{1}, {}}, {{1}, nil}}, {{{}, {1}}}, {{{1, 2}}}, {{{1}, {2}}},
		{{{2}}}, {{{-1}}}, {{{far}}}, {{{-far}}}, {{{1, 2}, {3}}}, {{{1, 2}, {3, 4}}}, {{{1, 2}, {3, 5}}}, {{{3, 4}, {1, 2}}},
		{filled(9, 2, 1)}, {filled(10, 2, 1)}, {filled(1, 5000, 0)}, {filled(1, 5001, 0)}, {{{api.MaxSample + 1}}}, {{{api.MaxSample}}},
	}
	for i, some := range kinds {
		for k, others := range kinds {
			for _, a := range some {
				for _, b := range others {
					if got := sample.Same(a, b); got != (i == k) {
						t.Errorf("Same(%v, %v) = %t", a, b, got)
					}
				}
			}
		}
	}
	d := draws(53)
	for range 200 {
		a := d.block(d.channels(), d.below(6))
		b := each(a, func(n int) int { return n })
		if !sample.Same(a, b) {
			t.Errorf("Same(%v, %v) is false", a, b)
		}
		if frames := len(a[0]); frames > 0 {
			b[d.below(len(b))][d.below(frames)]++
			if sample.Same(a, b) {
				t.Errorf("Same(%v, %v) is true", a, b)
			}
		}
	}
}
