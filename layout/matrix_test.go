package layout_test

import (
	"slices"
	"testing"

	"continuo/api"
	"continuo/layout"
)

// 3.2: 1 to 8 rows of 1 to 8 weights each, from -MaxGain to MaxGain.
func TestValidMatrix(t *testing.T) {
	for rows := 1; rows <= 8; rows++ {
		for columns := 1; columns <= 8; columns++ {
			for _, n := range []int{0, 1, api.MaxGain, -api.MaxGain} {
				if !layout.ValidMatrix(filled(rows, columns, n)) {
					t.Errorf("ValidMatrix of %d rows of %d times %d is false", rows, columns, n)
				}
			}
		}
	}
	for i, m := range invalidMatrices() {
		if layout.ValidMatrix(m) {
			t.Errorf("ValidMatrix of the invalid matrix %d is true", i)
		}
	}
}

// 3.2, P3.2: Identity leaves each block as it is.
func TestIdentity(t *testing.T) {
	d := draws(2)
	for n := 1; n <= api.MaxChannels; n++ {
		m, e := layout.Identity(n)
		if e != api.OK || len(m) != n {
			t.Fatalf("Identity(%d) = %v, %d", n, m, e)
		}
		for i := range n {
			want := make([]int, n)
			want[i] = api.One
			if !slices.Equal(m[i], want) {
				t.Errorf("Identity(%d): row %d is %v", n, i, m[i])
			}
		}
		for _, b := range []api.Block{filled(n, 0, 0), filled(n, 2, api.MaxSample), filled(n, 1, -api.MaxSample), d.block(n, 50), d.block(n, api.MaxFrames)} {
			if got := applied(t, m, b); !same(got, b) {
				t.Errorf("Identity(%d) changes a block of %d frames", n, len(b[0]))
			}
		}
	}
	for _, n := range []int{0, -1, 9, 1 << 62, -1 << 63} {
		if m, e := layout.Identity(n); e != api.ErrRange || len(m) != 0 {
			t.Errorf("Identity(%d) = %v, %d", n, m, e)
		}
	}
}

// 3.2: rows that are not normal are scaled, toward 0.
func TestNormal(t *testing.T) {
	for _, c := range []struct{ row, want []int }{
		{[]int{65536, -65536, 0}, []int{32768, -32768, 0}},
		{[]int{1, 2, 3}, []int{1, 2, 3}},
		{[]int{65536}, []int{65536}},
		{[]int{-65536}, []int{-65536}},
		{[]int{65535}, []int{65535}},
		{[]int{-65534, 1}, []int{-65534, 1}},
		{[]int{65537}, []int{65536}},
		{[]int{-65537}, []int{-65536}},
		{[]int{32768, -32768}, []int{32768, -32768}},
		{[]int{32768, -32769}, []int{32767, -32768}},
		{[]int{32769, -32768}, []int{32768, -32767}},
		{[]int{65536, 1}, []int{65535, 0}},
		{[]int{-65536, -1}, []int{-65535, 0}},
		{[]int{655360, 655360, 655360}, []int{21845, 21845, 21845}},
		{[]int{-655360, 0, 655360, 655360}, []int{-21845, 0, 21845, 21845}},
		{[]int{46341, 46341, 23170, 65536}, []int{16743, 16743, 8371, 23678}},
		{slices.Repeat([]int{-api.MaxGain}, 8), slices.Repeat([]int{-8192}, 8)},
		{[]int{0, 0}, []int{0, 0}},
	} {
		m, e := layout.Normal([][]int{c.row})
		if e != api.OK || !same(m, [][]int{c.want}) {
			t.Errorf("Normal(%v) = %v, %d; want %v", c.row, m, e, c.want)
		}
	}
}

// 3.2: each row by itself.
func TestNormalRows(t *testing.T) {
	m, e := layout.Normal([][]int{{65536, -65536}, {3, 4}, {-655360, 0}, {0, 65536}})
	if want := [][]int{{32768, -32768}, {3, 4}, {-65536, 0}, {0, 65536}}; e != api.OK || !same(m, want) {
		t.Errorf("%v, %d", m, e)
	}
}

// above returns the sum of a row's weights, all taken above 0.
func above(row []int) int {
	sum := 0
	for _, w := range row {
		sum += max(w, -w)
	}
	return sum
}

// P3.3: what Normal gives is normal, and a normal row stays.
func TestNormalStays(t *testing.T) {
	d := draws(33)
	for range 3000 {
		m := d.matrix(d.channels(), d.channels())
		n, e := layout.Normal(m)
		if e != api.OK || !layout.ValidMatrix(n) || len(n) != len(m) || len(n[0]) != len(m[0]) {
			t.Fatalf("Normal(%v) = %v, %d", m, n, e)
		}
		for i, row := range n {
			if above(row) > api.One || above(m[i]) <= api.One && !slices.Equal(row, m[i]) {
				t.Errorf("%v became %v", m[i], row)
			}
		}
		if again, e := layout.Normal(n); e != api.OK || !same(again, n) {
			t.Errorf("%v became %v, %d", n, again, e)
		}
	}
}

// P3.3: samples of a normal matrix's outcome are not bounded: all samples at their ends give a sum within them.
func TestNormalIsNotBounded(t *testing.T) {
	d := draws(3)
	for range 500 {
		m, e := layout.Normal(d.matrix(d.channels(), d.channels()))
		if e != api.OK {
			t.Fatalf("%d", e)
		}
		for _, row := range m {
			var loudest api.Block
			for _, w := range row {
				sample := api.MaxSample
				if w < 0 {
					sample = -sample
				}
				loudest = append(loudest, []int{sample})
			}
			want := (2*above(row)*api.MaxSample + api.One) / (2 * api.One)
			if got := applied(t, [][]int{row}, loudest); got[0][0] != want || want > api.MaxSample {
				t.Errorf("%v: %d, want %d", row, got[0][0], want)
			}
		}
	}
}

// 3.3: the channels in another order of the same positions.
func TestPick(t *testing.T) {
	l := parsed(t, "FL,FR,FC")
	m, e := layout.Pick(l, parsed(t, "FC,FL,FR"))
	if want := [][]int{{0, 0, api.One}, {api.One, 0, 0}, {0, api.One, 0}}; e != api.OK || !same(m, want) {
		t.Errorf("%v, %d", m, e)
	}
	d := draws(5)
	for range 1000 {
		l := d.layout(d.channels())
		b := d.block(len(l), 4)
		var order []int
		var want api.Block
		for _, i := range d.order(len(l)) {
			order = append(order, l[i])
			want = append(want, b[i])
		}
		m, e := layout.Pick(l, order)
		if e != api.OK || !same(applied(t, m, b), want) {
			t.Errorf("Pick(%v, %v) = %v, %d", l, order, m, e)
		}
	}
}

// 3.3, R2: other positions are of another kind, but ErrInvalid comes first.
func TestPickErrors(t *testing.T) {
	for _, c := range [][2]string{
		{"FL", "FR"}, {"FL,FR", "FL"}, {"FL", "FL,FR"}, {"FL,FR", "FL,FC"}, {"FL,FR,FC", "FR,FL"}, {"MONO", "FC"},
		{"FL,FR,FC,LFE,RL,RR,SL,SR", "FL,FR,FC,LFE,RL,RR,SL,RC"},
	} {
		if m, e := layout.Pick(parsed(t, c[0]), parsed(t, c[1])); e != api.ErrKind || len(m) != 0 {
			t.Errorf("Pick(%s, %s) = %v, %d", c[0], c[1], m, e)
		}
	}
	ok := []int{api.PFL}
	for _, l := range invalidLayouts() {
		for _, c := range [][2][]int{{l, ok}, {ok, l}, {l, l}} {
			if m, e := layout.Pick(c[0], c[1]); e != api.ErrInvalid || len(m) != 0 {
				t.Errorf("Pick of %d and %d positions = %v, %d", len(c[0]), len(c[1]), m, e)
			}
		}
	}
}

// 3.3: each row and each column has at most one weight, which is One.
func TestPlain(t *testing.T) {
	for _, c := range []struct {
		m    [][]int
		want bool
	}{
		{[][]int{{api.One}}, true},
		{[][]int{{0}}, true},
		{[][]int{{api.One - 1}}, false},
		{[][]int{{api.One + 1}}, false},
		{[][]int{{-api.One}}, false},
		{[][]int{{1}}, false},
		{[][]int{{api.One, 0}, {0, api.One}}, true},
		{[][]int{{0, api.One}, {api.One, 0}}, true},
		{[][]int{{api.One, api.One}}, false},
		{[][]int{{api.One}, {api.One}}, false},
		{[][]int{{api.One, 0}, {api.One, 0}}, false},
		{[][]int{{api.One, 0}, {0, 1}}, false},
		{[][]int{{0, api.One, 0}, {0, 0, 0}, {0, 0, api.One}, {0, 0, 0}}, true},
		{[][]int{{0, api.One, 0}, {0, 0, 0}, {0, 0, api.One}, {0, api.One, 0}}, false},
		{filled(8, 8, 0), true},
		{filled(8, 8, api.One), false},
	} {
		if got, e := layout.Plain(c.m); e != api.OK || got != c.want {
			t.Errorf("Plain(%v) = %t, %d", c.m, got, e)
		}
	}
}

// 3.3: picks and identities are plain; with one more weight than places they are not.
func TestPlainDrawn(t *testing.T) {
	d := draws(8)
	for range 2000 {
		m := d.plain(d.channels(), d.channels())
		if is, e := layout.Plain(m); e != api.OK || !is {
			t.Errorf("Plain(%v) = %t, %d", m, is, e)
		}
		row, k := m[d.below(len(m))], d.below(len(m[0]))
		row[k] = api.One/2 + d.below(9) // not One, wherever it stands
		if is, e := layout.Plain(m); e != api.OK || is {
			t.Errorf("Plain(%v) = %t, %d", m, is, e)
		}
	}
}

// 3.2, 3.3: matrices that are not valid.
func TestInvalidMatrices(t *testing.T) {
	for i, m := range invalidMatrices() {
		if n, e := layout.Normal(m); e != api.ErrInvalid || len(n) != 0 {
			t.Errorf("Normal of the invalid matrix %d: %v, %d", i, n, e)
		}
		if is, e := layout.Plain(m); e != api.ErrInvalid || is {
			t.Errorf("Plain of the invalid matrix %d: %t, %d", i, is, e)
		}
	}
}
