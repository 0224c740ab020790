package sample_test

import (
	"slices"
	"strings"
	"testing"

	"continuo/api"
	"continuo/sample"
)

// roomy returns a block that shares nothing with b, and has room to spare, with marks in it.
func roomy(b api.Block) api.Block {
	out := make(api.Block, 0, len(b)+2)
	for _, channel := range b {
		row := append(make([]int, 0, len(channel)+3), channel...)
		for i := len(row); i < cap(row); i++ {
			row[:cap(row)][i] = 77
		}
		out = append(out, row)
	}
	out[:cap(out)][len(out)] = []int{78}
	return out
}

// unspoilt reports whether a block and its room to spare are as roomy made them of b.
func unspoilt(got, b api.Block) bool {
	if !same(got, b) || !slices.Equal(got[:cap(got)][len(got)], []int{78}) || got[:cap(got)][len(got)+1] != nil {
		return false
	}
	for _, row := range got {
		if slices.ContainsFunc(row[len(row):cap(row)], func(n int) bool { return n != 77 }) {
			return false
		}
	}
	return true
}

// spoil writes over rows, their room to spare too.
func spoil(rows [][]int, n int) {
	for _, row := range rows {
		all := row[:cap(row)]
		for i := range all {
			all[i] = n
		}
	}
}

// alone reports whether no two rows share memory: each is written over with a number of its own.
func alone(rows [][]int) bool {
	for i := range rows {
		spoil(rows[i:i+1], 1000+i)
	}
	for i, row := range rows {
		if slices.ContainsFunc(row, func(n int) bool { return n != 1000+i }) {
			return false
		}
	}
	return true
}

// calls are the calls that read a block and make rows of numbers.
func calls() map[string]func(b api.Block) [][]int {
	return map[string]func(b api.Block) [][]int{
		"Encode": func(b api.Block) [][]int { s, _ := sample.Encode(api.E24L, true, b); return [][]int{bytesOf(s)} },
		"Dither": func(b api.Block) [][]int {
			d, _ := sample.NewDither(api.E8, 4, len(b), true)
			s, _ := d.Encode(false, b)
			return [][]int{bytesOf(s), d.Errors(), d.Errors(), d.Copy().Errors()}
		},
		"Peak":  func(b api.Block) [][]int { l, _ := sample.Peak(b); return [][]int{l} },
		"Power": func(b api.Block) [][]int { l, _ := sample.Power(b); return [][]int{l} },
		"Cut":   func(b api.Block) [][]int { out, _ := sample.Cut(b, 1, len(b[0])); return out },
		"Whole": func(b api.Block) [][]int { out, _ := sample.Cut(b, 0, len(b[0])); return out },
		"None":  func(b api.Block) [][]int { out, _ := sample.Cut(b, 1, 1); return out },
		"Join":  func(b api.Block) [][]int { out, _ := sample.Join([]api.Block{b, b}); return out },
		"Alone": func(b api.Block) [][]int { out, _ := sample.Join([]api.Block{b}); return out },
		"Same": func(b api.Block) [][]int {
			return [][]int{bytesOf(map[bool]string{true: "a", false: "b"}[sample.Same(b, b)])}
		},
	}
}

func bytesOf(s string) []int {
	var out []int
	for _, c := range []byte(s) {
		out = append(out, int(c))
	}
	return out
}

// P4.1, R4: blocks stay as they are, also in their room to spare; results are new memory, and share none among each other.
func TestFresh(t *testing.T) {
	block := api.Block{{1, -2, 3}, {4, 5, -api.MaxSample}}
	for name, call := range calls() {
		b, want := roomy(block), call(block)
		first := call(b)
		if len(first) == 0 || !same(first, want) || !unspoilt(b, block) {
			t.Errorf("%s changes the block", name)
		}
		if !alone(first) {
			t.Errorf("%s: rows share memory", name)
		}
		if !unspoilt(b, block) || !same(call(b), want) {
			t.Errorf("%s: the result shares memory with the block, or is kept", name)
		}
		again := call(b)
		spoil(b, 1)
		if !same(again, want) {
			t.Errorf("%s: the result changes with the block", name)
		}
	}
}

// P4.1, R4: what Decode and Errors give is new memory; Join keeps nothing of its list.
func TestFreshResults(t *testing.T) {
	first := decoded(t, api.E8, true, 2, "abcdef")
	if !alone(first) || !same(decoded(t, api.E8, true, 2, "abcdef"), api.Block{{97 * 65536, 98 * 65536, 99 * 65536}, {100 * 65536, 101 * 65536, 102 * 65536}}) {
		t.Errorf("Decode: rows share memory")
	}
	d := dither(t, api.E16L, 1, 2, true)
	written(t, d, false, api.Block{{100}, {100}})
	want, l := d.Errors(), d.Errors()
	spoil([][]int{l}, 9999)
	if !slices.Equal(d.Errors(), want) || !slices.Equal(d.Copy().Errors(), want) {
		t.Errorf("Errors gives its own memory")
	}
	list := append(make([]api.Block, 0, 4), api.Block{{1}}, api.Block{{2}})
	list[:3][2] = api.Block{{3}}
	if b, e := sample.Join(list); e != api.OK || !same(b, api.Block{{1, 2}}) || !same(list[:3][2], api.Block{{3}}) || list[:4][3] != nil {
		t.Errorf("Join = %v, %d", b, e)
	}
}

// P4.1, R1: every call ends, and none panics, whatever it is given.
func TestAllCallsEnd(t *testing.T) {
	blocks := append(invalidBlocks(), filled(1, 0, 0), filled(8, api.MaxFrames, api.MaxSample))
	numbers := []int{-1 << 63, -1, 0, 1, 3, 8, 9, api.MaxFrames, 1 << 31, 1<<63 - 1}
	texts := []string{"", "a", "abcdef", strings.Repeat("\x80", 8*4*api.MaxFrames), strings.Repeat("a", 1000000)}
	for _, b := range blocks {
		for _, n := range numbers {
			sample.Encode(n, true, b)
			sample.Cut(b, n, -n)
			sample.Cut(b, -n, n)
			d, _ := sample.NewDither(n, 1, 8, true)
			d.Encode(true, b)
			d.Copy().Errors()
		}
		for _, d := range []*sample.Dither{nil, {}} {
			if s, e := d.Encode(true, b); s != "" || e == api.OK {
				t.Errorf("what is no dither writes %d bytes, %d", len(s), e)
			}
			d.Copy().Errors()
		}
		sample.Same(b, b)
		sample.Peak(b)
		sample.Power(b)
		sample.Join([]api.Block{b, b})
	}
	for _, n := range numbers {
		sample.Bits(n)
		for _, k := range numbers {
			sample.Level(n, k)
			sample.Sample(n, k)
			sample.Size(n, k, k)
			sample.NewDither(n, k, k, false)
			for _, s := range texts {
				sample.Decode(n, true, k, s)
				sample.Turn(s, n, k, false)
			}
		}
	}
}
