package layout_test

import (
	"math/big"
	"testing"

	"continuo/api"
	"continuo/layout"
)

// roundedByOne is a sum rounded by One and bounded, by numbers of any length.
func roundedByOne(sum *big.Int, most int) int {
	twice := new(big.Int).Abs(sum)
	twice.Lsh(twice, 1).Add(twice, big.NewInt(api.One))
	n := min(int(twice.Div(twice, big.NewInt(2*api.One)).Int64()), most)
	return n * sum.Sign()
}

// weighed returns the sums of the weights of a matrix times what the rows of b have, rounded and bounded.
func weighed(m, b [][]int, most int) [][]int {
	out := filled(len(m), len(b[0]), 0)
	for i, row := range m {
		for at := range b[0] {
			sum := new(big.Int)
			for k, w := range row {
				sum.Add(sum, new(big.Int).Mul(big.NewInt(int64(w)), big.NewInt(int64(b[k][at]))))
			}
			out[i][at] = roundedByOne(sum, most)
		}
	}
	return out
}

// 3.3: sums are rounded by One, away from 0 where two are equally near, and bounded.
func TestApplyByHand(t *testing.T) {
	const half, top = api.One / 2, api.MaxSample
	for _, c := range []struct {
		row  []int
		b    api.Block
		want []int
	}{
		{[]int{half, half}, api.Block{{3, -3, 3, top, -top}, {4, -4, -4, top, -top}}, []int{4, -4, -1, top, -top}},
		{[]int{half}, api.Block{{1, -1, 2, 0, 3}}, []int{1, -1, 1, 0, 2}},
		{[]int{half - 1}, api.Block{{1, -1}}, []int{0, 0}},
		{[]int{half + 1}, api.Block{{1, -1}}, []int{1, -1}},
		{[]int{-half}, api.Block{{1, -1, 3}}, []int{-1, 1, -2}},
		{[]int{2 * api.One}, api.Block{{1, 4194303, 4194304, -4194303, -4194304, top, -top}}, []int{2, top - 1, top, -top + 1, -top, top, -top}},
		{[]int{api.MaxGain}, api.Block{{1, -1, top, -top}}, []int{10, -10, top, -top}},
		{[]int{-api.MaxGain, -api.MaxGain}, api.Block{{top, -top, top}, {top, -top, -top}}, []int{-top, top, 0}},
		// The sum is exact, though its parts are beyond the bounds.
		{[]int{api.MaxGain, -api.MaxGain, 1}, api.Block{{top}, {top}, {top}}, []int{128}},
		{[]int{0, 0}, api.Block{{top, 1}, {-top, 2}}, []int{0, 0}},
		{[]int{api.One + 1}, api.Block{{half - 1, half, -half}}, []int{half - 1, half + 1, -half - 1}},
	} {
		if got := applied(t, [][]int{c.row}, c.b); !same(got, [][]int{c.want}) {
			t.Errorf("Apply(%v, %v) = %v, want %v", c.row, c.b, got, c.want)
		}
	}
}

// 3.3: Apply is what the document tells, over many matrices and blocks.
func TestApplyDrawn(t *testing.T) {
	d := draws(4)
	for range 2000 {
		m, frames := d.matrix(d.channels(), d.channels()), d.below(6)
		b := d.block(len(m[0]), frames)
		got := applied(t, m, b)
		if want := weighed(m, b, api.MaxSample); !same(got, want) || !layout.ValidBlock(got) {
			t.Errorf("Apply(%v, %v) = %v, want %v", m, b, got, want)
		}
	}
}

// 3.3: the greatest blocks of the greatest sums, and blocks of no frames.
func TestApplyEnds(t *testing.T) {
	for _, c := range []struct{ weight, sample, want int }{
		{api.MaxGain, api.MaxSample, api.MaxSample}, {-api.MaxGain, api.MaxSample, -api.MaxSample},
		{api.MaxGain, -api.MaxSample, -api.MaxSample}, {1, api.MaxSample, 1024}, {api.MaxGain, 1, 80},
	} {
		for _, frames := range []int{0, 1, api.MaxFrames} {
			got := applied(t, filled(8, 8, c.weight), filled(8, frames, c.sample))
			if !same(got, filled(8, frames, c.want)) {
				t.Errorf("weights %d, samples %d, %d frames", c.weight, c.sample, frames)
			}
		}
	}
}

// P3.2: a Plain matrix moves channels, and makes the rest silent.
func TestApplyPlain(t *testing.T) {
	d := draws(32)
	for range 1000 {
		m := d.plain(d.channels(), d.channels())
		b := d.block(len(m[0]), 5)
		got := applied(t, m, b)
		for i, row := range m {
			want := filled(1, 5, 0)
			for k, w := range row {
				if w != 0 {
					want[0] = b[k]
				}
			}
			if !same(got[i:i+1], want) {
				t.Errorf("Apply(%v, %v) = %v", m, b, got)
			}
		}
	}
}

// P3.5: samples turned round give the outcome turned round.
func TestApplyTurned(t *testing.T) {
	d := draws(35)
	for range 2000 {
		m := d.matrix(d.channels(), d.channels())
		b := d.block(len(m[0]), d.below(8))
		if got, want := applied(t, m, turned(b)), turned(applied(t, m, b)); !same(got, want) {
			t.Errorf("Apply(%v, %v turned) = %v, want %v", m, b, got, want)
		}
	}
}

// 3.3, R2: ErrInvalid of the matrix or of the block, then ErrSize.
func TestApplyErrors(t *testing.T) {
	for rows := 1; rows <= 8; rows++ {
		for channels := 1; channels <= 8; channels++ {
			for columns := 1; columns <= 8; columns++ {
				want := api.ErrSize
				if columns == channels {
					want = api.OK
				}
				if b, e := layout.Apply(filled(rows, columns, 1), filled(channels, 2, 1)); e != want || e != api.OK && len(b) != 0 {
					t.Errorf("%d rows of %d, %d channels: %d", rows, columns, channels, e)
				}
			}
		}
	}
	for i, m := range invalidMatrices() {
		for _, b := range append(invalidBlocks(), filled(1, 2, 1), filled(2, 2, 1), filled(8, 2, 1)) {
			if out, e := layout.Apply(m, b); e != api.ErrInvalid || len(out) != 0 {
				t.Errorf("Apply of the invalid matrix %d to %d channels: %d", i, len(b), e)
			}
		}
	}
	for i, b := range invalidBlocks() {
		for columns := 1; columns <= 8; columns++ {
			if out, e := layout.Apply(filled(2, columns, 1), b); e != api.ErrInvalid || len(out) != 0 {
				t.Errorf("Apply to the invalid block %d: %d", i, e)
			}
		}
	}
}

// 3.3: each weight is the sum of products, rounded by One and bounded to MaxGain.
func TestJoinByHand(t *testing.T) {
	const one, half, top = api.One, api.One / 2, api.MaxGain
	for _, c := range []struct{ first, second, want [][]int }{
		{[][]int{{half}}, [][]int{{half}}, [][]int{{half / 2}}},
		{[][]int{{one, 0}, {0, one}}, [][]int{{1, 2}, {3, 4}, {5, 6}}, [][]int{{1, 2}, {3, 4}, {5, 6}}},
		{[][]int{{1, 2, 3}}, [][]int{{one}, {-one}}, [][]int{{1, 2, 3}, {-1, -2, -3}}},
		{[][]int{{1}, {1}}, [][]int{{half, 0}}, [][]int{{1}}},
		{[][]int{{-1}}, [][]int{{half}}, [][]int{{-1}}},
		{[][]int{{1}}, [][]int{{half - 1}}, [][]int{{0}}},
		{[][]int{{top}}, [][]int{{one + 1}}, [][]int{{top}}},
		{[][]int{{top}}, [][]int{{-top}}, [][]int{{-top}}},
		{[][]int{{-top}}, [][]int{{-top}}, [][]int{{top}}},
		{[][]int{{top}, {top}, {3}}, [][]int{{top, -top, one}}, [][]int{{3}}},
		{[][]int{{half, half}}, [][]int{{one}, {one}}, [][]int{{half, half}, {half, half}}},
		{[][]int{{1, 2}, {3, 4}}, [][]int{{0, one}, {one, 0}}, [][]int{{3, 4}, {1, 2}}},
		{[][]int{{0, one}, {one, 0}}, [][]int{{1, 2}, {3, 4}}, [][]int{{2, 1}, {4, 3}}},
	} {
		if got := joined(t, c.first, c.second); !same(got, c.want) {
			t.Errorf("Join(%v, %v) = %v, want %v", c.first, c.second, got, c.want)
		}
	}
}

// 3.3: Join is what the document tells, over many matrices.
func TestJoinDrawn(t *testing.T) {
	d := draws(9)
	for range 2000 {
		first := d.matrix(d.channels(), d.channels())
		second := d.matrix(d.channels(), len(first))
		got := joined(t, first, second)
		if want := weighed(second, first, api.MaxGain); !same(got, want) || !layout.ValidMatrix(got) {
			t.Errorf("Join(%v, %v) = %v, want %v", first, second, got, want)
		}
	}
}

// P3.4: Apply of Join is Apply of one behind the other, where either is Plain.
func TestJoinApplied(t *testing.T) {
	d := draws(34)
	for i := range 2000 {
		first := d.matrix(d.channels(), d.channels())
		if i%2 == 0 {
			first = d.plain(d.channels(), d.channels())
		}
		second := d.plain(d.channels(), len(first))
		if i%2 == 0 {
			second = d.matrix(d.channels(), len(first))
		}
		b := d.block(len(first[0]), 4)
		got, want := applied(t, joined(t, first, second), b), applied(t, second, applied(t, first, b))
		if !same(got, want) {
			t.Errorf("%v behind %v of %v: %v, want %v", second, first, b, got, want)
		}
	}
}

// P3.4: picks join to a pick.
func TestJoinPicks(t *testing.T) {
	d := draws(6)
	for range 1000 {
		l := d.layout(d.channels())
		reordered := func() []int {
			var out []int
			for _, i := range d.order(len(l)) {
				out = append(out, l[i])
			}
			return out
		}
		a, b := reordered(), reordered()
		first, e1 := layout.Pick(l, a)
		second, e2 := layout.Pick(a, b)
		want, e3 := layout.Pick(l, b)
		if e1 != api.OK || e2 != api.OK || e3 != api.OK || !same(joined(t, first, second), want) {
			t.Errorf("%v, %v, %v: %d, %d, %d", l, a, b, e1, e2, e3)
		}
	}
}

// 3.3, R2: ErrInvalid of either, then ErrSize.
func TestJoinErrors(t *testing.T) {
	for rows := 1; rows <= 8; rows++ {
		for columns := 1; columns <= 8; columns++ {
			for other := 1; other <= 8; other++ {
				want := api.ErrSize
				if rows == columns {
					want = api.OK
				}
				if m, e := layout.Join(filled(rows, other, 1), filled(other, columns, 1)); e != want || e != api.OK && len(m) != 0 {
					t.Errorf("%d rows of %d, then %d rows of %d: %d", rows, other, other, columns, e)
				}
			}
		}
	}
	for i, m := range invalidMatrices() {
		for _, ok := range [][][]int{filled(1, 1, 1), filled(1, 8, 1), filled(8, 1, 1), m} {
			if out, e := layout.Join(m, ok); e != api.ErrInvalid || len(out) != 0 {
				t.Errorf("Join of the invalid matrix %d first: %d", i, e)
			}
			if out, e := layout.Join(ok, m); e != api.ErrInvalid || len(out) != 0 {
				t.Errorf("Join of the invalid matrix %d second: %d", i, e)
			}
		}
	}
}
