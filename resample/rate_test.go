package resample_test

import (
	"math/big"
	"testing"

	"continuo/api"
	"continuo/resample"
)

// 5.3: fractions that were worked out by hand.
func TestLowestByHand(t *testing.T) {
	for _, x := range [][4]int{
		{48000, 44100, 160, 147}, {44100, 48000, 147, 160}, {1, 1, 1, 1}, {192000, 192000, 1, 1}, {192000, 1, 192000, 1},
		{1, 192000, 1, 192000}, {11025, 44100, 1, 4}, {7, 13, 7, 13}, {191999, 192000, 191999, 192000}, {6, 4, 3, 2},
	} {
		if a, b, e := resample.Lowest(x[0], x[1]); a != x[2] || b != x[3] || e != api.OK {
			t.Errorf("Lowest(%d, %d) = %d, %d, %d", x[0], x[1], a, b, e)
		}
	}
}

// 5.3: Lowest is the same fraction, and no lower one is.
func TestLowest(t *testing.T) {
	check := func(in, out int) {
		t.Helper()
		want := big.NewRat(int64(in), int64(out))
		if a, b, e := resample.Lowest(in, out); e != api.OK || int64(a) != want.Num().Int64() || int64(b) != want.Denom().Int64() {
			t.Errorf("Lowest(%d, %d) = %d, %d, %d", in, out, a, b, e)
		}
	}
	d := draws(1)
	for in := 1; in <= 60; in++ {
		for out := 1; out <= 60; out++ {
			check(in, out)
		}
	}
	for range 2000 {
		check(d.below(api.MaxRate)+1, d.below(api.MaxRate)+1)
	}
}

// 5.3, P5.3: Frames is the least number not below n * out / in.
func TestFrames(t *testing.T) {
	check := func(in, out, n int) {
		t.Helper()
		exact := new(big.Rat).Mul(big.NewRat(int64(n), 1), big.NewRat(int64(out), int64(in)))
		got, e := resample.Frames(in, out, n)
		if e != api.OK || big.NewRat(int64(got), 1).Cmp(exact) < 0 || big.NewRat(int64(got-1), 1).Cmp(exact) >= 0 {
			t.Errorf("Frames(%d, %d, %d) = %d, %d", in, out, n, got, e)
		}
	}
	d := draws(2)
	for range 5000 {
		in, out := d.rates()
		check(in, out, []int{0, 1, d.below(20), d.below(api.MaxFrames + 1), d.below(api.MaxTime + 1), api.MaxTime}[d.below(6)])
	}
	check(1200, api.MaxRate, api.MaxTime)
	check(api.MaxRate, 1200, api.MaxTime)
	if n, e := resample.Frames(48000, 44100, 100); n != 92 || e != api.OK {
		t.Errorf("Frames(48000, 44100, 100) = %d, %d", n, e)
	}
	if n, e := resample.Frames(1200, 192000, api.MaxTime); n != 160*api.MaxTime || e != api.OK {
		t.Errorf("Frames(1200, 192000, MaxTime) = %d, %d", n, e)
	}
}

// 5.3: the errors of Frames and Lowest, and their order.
func TestRateErrors(t *testing.T) {
	frames := func(in, out, n int, want api.Errno) {
		t.Helper()
		if got, e := resample.Frames(in, out, n); got != 0 || e != want {
			t.Errorf("Frames(%d, %d, %d) = %d, %d, not %d", in, out, n, got, e, want)
		}
	}
	for _, n := range noRates() {
		for _, r := range [][2]int{{n, 1}, {1, n}, {n, n}, {n, api.MaxRate}, {api.MaxRate, n}} {
			frames(r[0], r[1], 1, api.ErrRange)
			if a, b, e := resample.Lowest(r[0], r[1]); a != 0 || b != 0 || e != api.ErrRange {
				t.Errorf("Lowest(%d, %d) = %d, %d, %d", r[0], r[1], a, b, e)
			}
		}
	}
	for _, n := range []int{-1, api.MaxTime + 1, 1 << 62, -1 << 63, 1<<63 - 1} {
		frames(2, 3, n, api.ErrRange)
		frames(1, 161, n, api.ErrRange)
	}
	frames(1, 161, 0, api.ErrKind)
	frames(161, 1, 10, api.ErrKind)
	frames(1199, api.MaxRate, 10, api.ErrKind)
	frames(api.MaxRate, 1199, 10, api.ErrKind)
}
