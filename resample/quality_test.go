package resample_test

import (
	"math/big"
	"slices"
	"testing"

	"continuo/api"
	"continuo/resample"
)

// 5.3: weights that were worked out by hand.
func TestWeightsByHand(t *testing.T) {
	tests := []struct {
		quality, k int
		want       []int
	}{
		{1, 0, []int{256, 0}},
		{1, 64, []int{192, 64}},
		{1, 255, []int{1, 255}},
		{2, 0, []int{0, 100663296, 0, 0}},
		{2, 64, []int{-5505024, 82575360, 27525120, -3932160}},
		{2, 128, []int{-6291456, 56623104, 56623104, -6291456}},
		{2, 255, []int{-65535, 393981, 100465155, -130305}},
	}
	for _, x := range tests {
		if got := weights(t, x.quality, x.k); !slices.Equal(got, x.want) {
			t.Errorf("Weights(%d, %d) = %v, not %v", x.quality, x.k, got, x.want)
		}
	}
}

// 5.3: the weights of each phase are together what the sum is rounded by, and those of the chapter's products; they bring back each curve that they can.
func TestWeights(t *testing.T) {
	for k := range 256 {
		if l := weights(t, 1, k); l[0]+l[1] != 256 || l[1] != k {
			t.Errorf("Weights(1, %d) = %v", k, l)
		}
		l := weights(t, 2, k)
		for i, n := range l {
			x := make([]int, 4)
			x[i] = 1
			if want := cubic(int64(k), x...); want.Cmp(big.NewInt(int64(n))) != 0 {
				t.Errorf("Weights(2, %d)[%d] = %d, not %s", k, i, n, want)
			}
		}
		for power := range 4 { // x(i) = i ^ power, at k / 256
			sum, want := 0, 6*256*256*256
			for i, n := range l {
				for range power {
					n *= i - 1
				}
				sum += n
			}
			for range power {
				want = want / 256 * k
			}
			if sum != want {
				t.Errorf("Weights(2, %d) for i ^ %d make %d, not %d", k, power, sum, want)
			}
		}
	}
}

// 5.3: what is no quality or no phase has no weights.
func TestWeightsErrors(t *testing.T) {
	check := func(quality, k int) {
		t.Helper()
		if l, e := resample.Weights(quality, k); e != api.ErrRange || len(l) != 0 {
			t.Errorf("Weights(%d, %d) = %v, %d", quality, k, l, e)
		}
	}
	for _, n := range noQualities() {
		check(n, 0)
		check(n, 256)
	}
	for _, k := range []int{-1, 256, 1 << 62, -1 << 63, 1<<63 - 1, 1 << 32} {
		check(1, k)
		check(2, k)
	}
}

// 5.2: Ahead is 1 for linear and 2 for cubic: so many frames must come behind the first one that it is made.
func TestAhead(t *testing.T) {
	for quality := 1; quality <= 2; quality++ {
		s := begun(t, 1, 1, quality, 1)
		if s.Ahead() != quality {
			t.Errorf("quality %d: Ahead = %d", quality, s.Ahead())
		}
		for range s.Ahead() {
			if got := pushed(t, s, api.Block{{7}}); len(got[0]) != 0 {
				t.Errorf("quality %d: made %v", quality, got)
			}
		}
		for range 3 {
			if got := pushed(t, s, api.Block{{7}}); !same(got, api.Block{{7}}) {
				t.Errorf("quality %d: made %v", quality, got)
			}
		}
	}
}
