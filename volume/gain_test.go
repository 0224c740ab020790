package volume_test

import (
	"math/big"
	"testing"

	"continuo/api"
	"continuo/volume"
)

// Gains, 6.2: a sample times the gain is rounded by One, away from 0 where two are equally near, and bounded.
func TestApplyByHand(t *testing.T) {
	for _, c := range []struct {
		gain    int
		b, want api.Block
	}{
		{half, api.Block{{1, -1, 2, 3, 0}, {most, -most, -2, -3, 4}}, api.Block{{1, -1, 1, 2, 0}, {4194304, -4194304, -1, -2, 2}}},
		{half - 1, api.Block{{1, -1, 3, -3}}, api.Block{{0, 0, 1, -1}}},
		{half + 1, api.Block{{1, -1, 3, -3}}, api.Block{{1, -1, 2, -2}}},
		{1, api.Block{{half, half - 1, -half, 1 - half, most}}, api.Block{{1, 0, -1, 0, 128}}},
		{2 * one, api.Block{{4194303, 4194304, -4194303, -4194304}}, api.Block{{most - 1, most, 1 - most, -most}}},
		{top, api.Block{{1, -1, most, -most, 838860, 838861}}, api.Block{{10, -10, most, -most, 8388600, most}}},
		{one + 1, api.Block{{half - 1, half, -half, most}}, api.Block{{half - 1, half + 1, -half - 1, most}}},
		{0, api.Block{{most, -most, 1}}, api.Block{{0, 0, 0}}},
		{half, api.Block{{}, {}}, api.Block{{}, {}}},
	} {
		if got := applied(t, c.gain, c.b); !same(got, c.want) {
			t.Errorf("Apply(%d, %v) = %v, not %v", c.gain, c.b, got, c.want)
		}
	}
}

// 6.2: Apply is what the chapter tells, over many gains and blocks, and is what Push and Ramp make of a gain that holds.
func TestApplyDrawn(t *testing.T) {
	for seed := range 500 {
		d := draws(seed)
		gain, channels := d.gain(), d.channels()
		b := d.block(channels, d.below(60))
		want := part(b, 0, len(b[0]))
		for _, row := range want {
			for i, n := range row {
				row[i] = louder(n, gain)
			}
		}
		if got := applied(t, gain, b); !same(got, want) {
			t.Fatalf("Apply(%d, %v) = %v, not %v", gain, b, got, want)
		}
		v := begun(t, channels)
		set(t, v, 0, filled(1, channels, gain)[0]...)
		if !same(pushed(t, v, b), want) || !same(ramped(t, gain, gain, d.frames(), b), want) || !same(ramped(t, 0, gain, 0, b), want) {
			t.Fatalf("gain %d, %v: Push and Ramp are not Apply", gain, b)
		}
	}
}

// P6.5: with gains One nothing changes; with 0 all is silent.
func TestOne(t *testing.T) {
	for seed := range 300 {
		d := draws(seed)
		channels := d.channels()
		b := d.block(channels, []int{0, 1, d.below(100), api.MaxFrames}[d.below(4)])
		silent := filled(channels, len(b[0]), 0)
		v := begun(t, channels)
		if !same(pushed(t, v, b), b) || !same(pushed(t, v, b), b) || !same(applied(t, one, b), b) {
			t.Fatalf("One changes %v", b)
		}
		set(t, v, 0, make([]int, channels)...)
		if !same(pushed(t, v, b), silent) || !same(applied(t, 0, b), silent) {
			t.Fatalf("0 leaves something of %v", b)
		}
	}
}

// 6.2: Chain is One, then for each gain the product, rounded by One, bounded to MaxGain.
func TestChainByHand(t *testing.T) {
	for _, c := range []struct {
		gains []int
		want  int
	}{
		{nil, one}, {[]int{half, half}, half / 2}, {[]int{1}, 1}, {[]int{1, half}, 1}, {[]int{1, half - 1}, 0},
		{[]int{3, half}, 2}, {[]int{half, 3}, 2}, {[]int{top, top}, top}, {[]int{top, 2 * one, half}, top / 2},
		{[]int{half, top, 2 * one}, top}, {[]int{top, one + 1}, top}, {[]int{top, one - 1}, top - 10},
		{[]int{1, half, half, half}, 1}, {[]int{half, half, half, 1}, 0}, {[]int{top, 0, top}, 0}, {[]int{0}, 0},
	} {
		if got := chained(t, c.gains...); got != c.want {
			t.Errorf("Chain(%v) = %d, not %d", c.gains, got, c.want)
		}
	}
}

// 6.2: Chain is what the chapter tells, over many lists.
func TestChainDrawn(t *testing.T) {
	for seed := range 1000 {
		d := draws(seed)
		gains, want := d.gains(d.below(12)), one
		for _, gain := range gains {
			want = clamped(nearest(product(want, gain), one), top)
		}
		if got := chained(t, gains...); got != want {
			t.Fatalf("Chain(%v) = %d, not %d", gains, got, want)
		}
	}
	many := filled(1, 100000, one)[0]
	many[500] = 77
	if got := chained(t, many...); got != 77 {
		t.Errorf("Chain of many = %d", got)
	}
}

// P6.6: Chain of gains in which all but one are One is that one.
func TestChainOfOne(t *testing.T) {
	for seed := range 500 {
		d := draws(seed)
		gains := filled(1, 1+d.below(8), one)[0]
		want := d.gain()
		gains[d.below(len(gains))] = want
		if got := chained(t, gains...); got != want {
			t.Fatalf("Chain(%v) = %d", gains, got)
		}
	}
}

// 6.2: Cubic is a percentage's third power times One, rounded by 1,000,000.
func TestCubic(t *testing.T) {
	for n, want := range map[int]int{0: 0, 1: 0, 2: 1, 3: 2, 10: 66, 20: 524, 50: 8192, 99: 63590, 100: one, 150: 221184, 200: 8 * one} {
		if got, e := volume.Cubic(n); got != want || e != api.OK {
			t.Errorf("Cubic(%d) = %d, %d, not %d", n, got, e, want)
		}
	}
	for n := range 201 {
		third := new(big.Int).Exp(big.NewInt(int64(n)), big.NewInt(3), nil)
		want := nearest(third.Mul(third, big.NewInt(one)), 1000000)
		if got, e := volume.Cubic(n); got != want || e != api.OK {
			t.Errorf("Cubic(%d) = %d, %d, not %d", n, got, e, want)
		}
	}
	for _, n := range []int{-1, 201, -200, 1 << 32, 1<<32 + 50, 1 << 62, -1 << 63, 1<<63 - 1} {
		if got, e := volume.Cubic(n); got != 0 || e != api.ErrRange {
			t.Errorf("Cubic(%d) = %d, %d", n, got, e)
		}
	}
}

// 6.2: Percent is the least percentage whose Cubic is at least a gain, for all gains.
func TestPercent(t *testing.T) {
	gain := 0
	for n := range 201 {
		for cubic, _ := volume.Cubic(n); gain <= cubic; gain++ {
			if got, e := volume.Percent(gain); got != n || e != api.OK {
				t.Fatalf("Percent(%d) = %d, %d, not %d", gain, got, e, n)
			}
		}
	}
	if gain != 8*one+1 {
		t.Errorf("Cubic(200) = %d", gain-1)
	}
	for ; gain <= top; gain++ {
		if got, e := volume.Percent(gain); got != 0 || e != api.ErrNone {
			t.Fatalf("Percent(%d) = %d, %d", gain, got, e)
		}
	}
	for _, n := range noGains() {
		if got, e := volume.Percent(n); got != 0 || e != api.ErrRange {
			t.Errorf("Percent(%d) = %d, %d", n, got, e)
		}
	}
}

// 6.2, R2: Apply's and Chain's errors, and their order.
func TestGainErrors(t *testing.T) {
	for _, n := range noGains() {
		if out, e := volume.Apply(n, filled(2, 3, 1)); e != api.ErrRange || len(out) != 0 {
			t.Errorf("Apply(%d) = %v, %d", n, out, e)
		}
		for _, gains := range [][]int{{n}, {one, n}, {n, 0}, {0, 0, n, 0}, {n, top + 1}} {
			if got, e := volume.Chain(gains); got != 0 || e != api.ErrRange {
				t.Errorf("Chain(%v) = %d, %d", gains, got, e)
			}
		}
	}
	for _, b := range invalidBlocks() {
		for _, gain := range append(noGains(), 0, one, top) {
			if out, e := volume.Apply(gain, b); e != api.ErrInvalid || len(out) != 0 {
				t.Errorf("Apply(%d) of an invalid block = %v, %d", gain, out, e)
			}
		}
	}
	applied(t, top, filled(8, api.MaxFrames, -most))
}
