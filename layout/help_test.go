package layout_test

import (
	"slices"
	"strings"
	"testing"

	"continuo/api"
	"continuo/layout"
)

// parsed reads a layout from its text.
func parsed(t *testing.T, text string) []int {
	t.Helper()
	l, e := layout.Parse(text)
	if e != api.OK {
		t.Fatalf("Parse(%q) = %d", text, e)
	}
	return l
}

// between is Between of two layouts that are valid.
func between(t *testing.T, from, to []int, lfe bool) [][]int {
	t.Helper()
	m, e := layout.Between(from, to, lfe)
	if e != api.OK {
		t.Fatalf("Between(%v, %v, %t) = %d", from, to, lfe, e)
	}
	return m
}

// applied is Apply of a matrix and a block that fit.
func applied(t *testing.T, m [][]int, b api.Block) api.Block {
	t.Helper()
	out, e := layout.Apply(m, b)
	if e != api.OK {
		t.Fatalf("Apply(%v, a block of %d channels) = %d", m, len(b), e)
	}
	return out
}

// joined is Join of matrices that fit.
func joined(t *testing.T, first, second [][]int) [][]int {
	t.Helper()
	m, e := layout.Join(first, second)
	if e != api.OK {
		t.Fatalf("Join(%v, %v) = %d", first, second, e)
	}
	return m
}

// same reports whether two matrices or two blocks are equal.
func same(a, b [][]int) bool {
	return slices.EqualFunc(a, b, func(x, y []int) bool { return slices.Equal(x, y) })
}

// turned returns a block with all samples turned round.
func turned(b api.Block) api.Block {
	var out api.Block
	for _, channel := range b {
		var other []int
		for _, s := range channel {
			other = append(other, -s)
		}
		out = append(out, other)
	}
	return out
}

// filled returns so many rows of so many numbers n.
func filled(rows, columns, n int) [][]int {
	var out [][]int
	for range rows {
		out = append(out, slices.Repeat([]int{n}, columns))
	}
	return out
}

// subsets returns all layouts with ascending positions.
func subsets() [][]int {
	var out [][]int
	for bits := range 1 << api.PRC {
		var l []int
		for p := api.PMono; p <= api.PRC; p++ {
			if bits>>(p-1)&1 == 1 {
				l = append(l, p)
			}
		}
		if len(l) >= 1 && len(l) <= api.MaxChannels {
			out = append(out, l)
		}
	}
	return out
}

// draws are numbers that look drawn, the same ones each time.
type draws uint64

func (d *draws) below(n int) int {
	*d = *d*6364136223846793005 + 1442695040888963407
	return int(uint64(*d)>>33) % n
}

// within draws a number from -most to most.
func (d *draws) within(most int) int { return d.below(2*most+1) - most }

// order draws an order of the numbers from 0 to n-1.
func (d *draws) order(n int) []int {
	var out []int
	for i := range n {
		out = slices.Insert(out, d.below(i+1), i)
	}
	return out
}

// layout draws a layout of so many channels.
func (d *draws) layout(channels int) []int {
	var out []int
	for _, i := range d.order(api.PRC)[:channels] {
		out = append(out, i+1)
	}
	return out
}

// rows draws rows of numbers from -most to most.
func (d *draws) rows(rows, columns, most int) [][]int {
	out := filled(rows, columns, 0)
	for _, row := range out {
		for i := range row {
			row[i] = d.within(most)
		}
	}
	return out
}

// matrix draws a matrix of great weights or of small ones, some of them 0.
func (d *draws) matrix(rows, columns int) [][]int {
	m := d.rows(rows, columns, []int{api.MaxGain, api.One, 3}[d.below(3)])
	for _, row := range m {
		row[d.below(columns)] = 0
	}
	return m
}

// plain draws a matrix that mixes nothing.
func (d *draws) plain(rows, columns int) [][]int {
	m := filled(rows, columns, 0)
	down, across := d.order(rows), d.order(columns)
	for i := range d.below(min(rows, columns) + 1) {
		m[down[i]][across[i]] = api.One
	}
	return m
}

// block draws a block of loud samples or of quiet ones.
func (d *draws) block(channels, frames int) api.Block {
	return d.rows(channels, frames, []int{api.MaxSample, 1000, 3}[d.below(3)])
}

func (d *draws) channels() int { return d.below(api.MaxChannels) + 1 }

// invalidLayouts are almost right.
func invalidLayouts() [][]int {
	return [][]int{
		nil, {}, {0}, {-1}, {11}, {1 << 62}, {-1 << 63}, {2, 2}, {1, 2, 3, 1}, {2, 0}, {2, 3, 11},
		{1, 2, 3, 4, 5, 6, 7, 8, 9}, {1, 2, 3, 4, 5, 6, 7, 8, 9, 10},
		slices.Repeat([]int{1}, 8), slices.Repeat([]int{1}, 100000),
	}
}

// invalidMatrices are almost right.
func invalidMatrices() [][][]int {
	return [][][]int{
		nil, {}, {nil}, {{}}, {{}, {}}, {{1}, {}}, {{}, {1}}, {{1, 2}, {3}}, {{1}, {2, 3}}, {{1}, {2}, nil},
		filled(9, 1, 0), filled(1, 9, 0), filled(9, 9, 0), filled(100000, 1, 0), filled(1, 100000, 0),
		{{api.MaxGain + 1}}, {{-api.MaxGain - 1}}, {{1, 2}, {3, api.MaxGain + 1}}, {{0, -api.MaxGain - 1}, {0, 0}},
		{{1<<63 - 1}}, {{-1 << 63}},
	}
}

// invalidBlocks are almost right.
func invalidBlocks() []api.Block {
	return []api.Block{
		nil, {}, filled(9, 0, 0), filled(9, 3, 0), filled(100000, 0, 0), {{1}, {}}, {{}, {1}}, {{1, 2}, {3}}, {{1}, {2}, nil},
		filled(1, api.MaxFrames+1, 0), filled(8, api.MaxFrames+1, 0), {make([]int, api.MaxFrames), make([]int, api.MaxFrames+1)},
		{{api.MaxSample + 1}}, {{-api.MaxSample - 1}}, {{0, 0}, {0, api.MaxSample + 1}}, {{0, -api.MaxSample - 1}, {0, 0}},
		{{1<<63 - 1}}, {{-1 << 63}},
	}
}

// words splits a text at its spaces.
func words(text string) []string { return strings.Fields(text) }
