package layout_test

import (
	"slices"
	"testing"

	"continuo/api"
	"continuo/layout"
)

// roomy returns a list that shares nothing with l, and has room to spare, with marks in it.
func roomy(l []int) []int {
	out := append(make([]int, 0, len(l)+3), l...)
	for i := len(l); i < cap(out); i++ {
		out[:cap(out)][i] = 77
	}
	return out
}

func roomyRows(m [][]int) [][]int {
	out := make([][]int, 0, len(m)+2)
	for _, row := range m {
		out = append(out, roomy(row))
	}
	out[:cap(out)][len(out)] = []int{78}
	return out
}

// unspoilt reports whether rows and their room to spare are as roomyRows made them of m.
func unspoilt(got, m [][]int) bool {
	if !same(got, m) || !slices.Equal(got[:cap(got)][len(got)], []int{78}) || got[:cap(got)][len(got)+1] != nil {
		return false
	}
	for _, row := range got {
		if !roomLeft(row) {
			return false
		}
	}
	return true
}

// roomLeft reports whether the room to spare of what roomy made has all its marks.
func roomLeft(l []int) bool {
	return !slices.ContainsFunc(l[len(l):cap(l)], func(n int) bool { return n != 77 })
}

// spoil writes over rows, their room to spare too.
func spoil(m [][]int, n int) {
	for _, row := range m {
		all := row[:cap(row)]
		for i := range all {
			all[i] = n
		}
	}
}

// alone reports whether no two rows share memory: each is written over with a number of its own.
func alone(m [][]int) bool {
	for i := range m {
		spoil(m[i:i+1], 1000+i)
	}
	for i, row := range m {
		if slices.ContainsFunc(row, func(n int) bool { return n != 1000+i }) {
			return false
		}
	}
	return true
}

// calls are the calls that make matrices or blocks of two matrices, a block and two layouts.
func calls() map[string]func(a, b [][]int, c api.Block, l, order []int) [][]int {
	return map[string]func(a, b [][]int, c api.Block, l, order []int) [][]int{
		"Between": func(a, b [][]int, c api.Block, l, order []int) [][]int {
			m, _ := layout.Between(l, order, true)
			return m
		},
		"Identity": func(a, b [][]int, c api.Block, l, order []int) [][]int { m, _ := layout.Identity(3); return m },
		"Normal":   func(a, b [][]int, c api.Block, l, order []int) [][]int { m, _ := layout.Normal(a); return m },
		"Apply":    func(a, b [][]int, c api.Block, l, order []int) [][]int { m, _ := layout.Apply(a, c); return m },
		"Join":     func(a, b [][]int, c api.Block, l, order []int) [][]int { m, _ := layout.Join(a, b); return m },
		"Pick":     func(a, b [][]int, c api.Block, l, order []int) [][]int { m, _ := layout.Pick(l, order); return m },
		"Silent":   func(a, b [][]int, c api.Block, l, order []int) [][]int { m, _ := layout.Silent(3, 4); return m },
	}
}

// P3.1, R4: arguments stay as they are, also in their room to spare; results are new memory, and share none among each other.
func TestFreshRows(t *testing.T) {
	for _, weights := range [][][]int{
		{{api.One, 0}, {0, api.One}}, {{5, 6}, {7, -8}}, {{api.MaxGain, 1}, {-api.MaxGain, 3}},
	} {
		block := api.Block{{1, -2, 3}, {4, 5, -api.MaxSample}}
		l, order := []int{api.PFL, api.PRL}, []int{api.PRL, api.PFL}
		for name, call := range calls() {
			a, b, c, from, to := roomyRows(weights), roomyRows(weights), roomyRows(block), roomy(l), roomy(order)
			first := call(a, b, c, from, to)
			if len(first) == 0 {
				t.Fatalf("%s gives nothing", name)
			}
			want := call(weights, weights, block, l, order)
			if !same(first, want) || !unspoilt(a, weights) || !unspoilt(b, weights) || !unspoilt(c, block) {
				t.Errorf("%s changes what it is given", name)
			}
			if !slices.Equal(from, l) || !slices.Equal(to, order) || !roomLeft(from) || !roomLeft(to) {
				t.Errorf("%s changes a layout", name)
			}
			if !alone(first) {
				t.Errorf("%s: rows share memory", name)
			}
			spoil(first, -99)
			if !unspoilt(a, weights) || !unspoilt(b, weights) || !unspoilt(c, block) || !same(call(a, b, c, from, to), want) {
				t.Errorf("%s: the result shares memory with what is given, or is kept", name)
			}
			again := call(a, b, c, from, to)
			spoil(a, 1)
			spoil(b, 1)
			spoil(c, 1)
			if !same(again, want) {
				t.Errorf("%s: the result changes with what was given", name)
			}
		}
	}
}

// P3.1, R4: layouts that are given out are new memory.
func TestFreshLayouts(t *testing.T) {
	for n := 1; n <= api.MaxChannels; n++ {
		first, _ := layout.Usual(n)
		text := layout.Text(first)
		read, _ := layout.Parse(text)
		spoil([][]int{first, read}, -99)
		second, _ := layout.Usual(n)
		again, _ := layout.Parse(text)
		if layout.Text(second) != text || !slices.Equal(again, second) {
			t.Errorf("Usual(%d) = %v, Parse(%q) = %v", n, second, text, again)
		}
	}
}

// P3.1, R1: every call ends, and none panics, whatever it is given; R3: beside an error is nothing.
func TestAllCallsEnd(t *testing.T) {
	layouts := append(invalidLayouts(), []int{1}, []int{2, 3})
	matrices := append(invalidMatrices(), filled(1, 1, 1), filled(8, 8, api.MaxGain))
	blocks := append(invalidBlocks(), filled(1, 0, 0), filled(8, api.MaxFrames, api.MaxSample))
	told := func(name string, rows int, e api.Errno) {
		if e != api.OK && rows != 0 {
			t.Errorf("%s: %d rows beside %d", name, rows, e)
		}
	}
	for _, a := range layouts {
		layout.Valid(a)
		layout.Text(a)
		for _, b := range layouts {
			m, e := layout.Between(a, b, true)
			told("Between", len(m), e)
			m, e = layout.Pick(a, b)
			told("Pick", len(m), e)
		}
	}
	for _, a := range matrices {
		layout.ValidMatrix(a)
		m, e := layout.Normal(a)
		told("Normal", len(m), e)
		layout.Plain(a)
		for _, b := range matrices {
			m, e := layout.Join(a, b)
			told("Join", len(m), e)
		}
		for _, b := range blocks {
			layout.ValidBlock(b)
			out, e := layout.Apply(a, b)
			told("Apply", len(out), e)
		}
	}
	for _, n := range []int{-1 << 63, -1, 0, 1, 8, 9, 1<<63 - 1} {
		layout.Usual(n)
		layout.Identity(n)
		for _, frames := range []int{-1 << 63, -1, 0, api.MaxFrames, api.MaxFrames + 1, 1<<63 - 1} {
			layout.Silent(n, frames)
		}
	}
}
