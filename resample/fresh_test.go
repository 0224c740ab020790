package resample_test

import (
	"slices"
	"testing"

	"continuo/api"
	"continuo/resample"
)

// roomy returns a block that shares nothing with b, and has room to spare, with marks in it.
func roomy(b api.Block) api.Block {
	out := make(api.Block, 0, len(b)+2)
	for _, channel := range b {
		row := append(make([]int, 0, len(channel)+3), channel...)
		for i := len(row); i < cap(row); i++ {
			row[:cap(row)][i] = 77
		}
		out = append(out, row)
	}
	out[:cap(out)][len(out)] = []int{78}
	return out
}

// unspoilt reports whether a block and its room to spare are as roomy made them of b.
func unspoilt(got, b api.Block) bool {
	if !same(got, b) || !slices.Equal(got[:cap(got)][len(got)], []int{78}) || got[:cap(got)][len(got)+1] != nil {
		return false
	}
	for _, row := range got {
		if slices.ContainsFunc(row[len(row):cap(row)], func(n int) bool { return n != 77 }) {
			return false
		}
	}
	return true
}

// spoil writes over rows, their room to spare too.
func spoil(rows [][]int, n int) {
	for _, row := range rows {
		all := row[:cap(row)]
		for i := range all {
			all[i] = n
		}
	}
}

// alone reports whether no two rows share memory: each is written over with a number of its own.
func alone(rows [][]int) bool {
	for i := range rows {
		spoil(rows[i:i+1], 1000+i)
	}
	for i, row := range rows {
		if slices.ContainsFunc(row, func(n int) bool { return n != 1000+i }) {
			return false
		}
	}
	return true
}

// P5.1, R4: Push, Drain and Whole leave their blocks as they are, keep nothing of them, and give new memory.
func TestFresh(t *testing.T) {
	for quality := 1; quality <= 2; quality++ {
		first, second := api.Block{{1, -2, 3}, {4, 5, -most}}, api.Block{{7}, {9}}
		plain := begun(t, 1, 2, quality, 2)
		want := []api.Block{pushed(t, plain, first), pushed(t, plain, second), drained(t, plain, 2)}
		s := begun(t, 1, 2, quality, 2)
		a, b := roomy(first), roomy(second)
		got := pushed(t, s, a)
		if !same(got, want[0]) || !alone(got) || !unspoilt(a, first) {
			t.Errorf("quality %d: Push shares memory", quality)
		}
		spoil(a, 1)
		got = pushed(t, s, b)
		if !same(got, want[1]) || !alone(got) || !unspoilt(b, second) {
			t.Errorf("quality %d: Push keeps its block, or what it gave", quality)
		}
		spoil(b, 1)
		c := s.Copy()
		got = drained(t, s, 2)
		if !same(got, want[2]) || !alone(got) || !same(drained(t, c, 2), want[2]) {
			t.Errorf("quality %d: Drain shares memory", quality)
		}
		a = roomy(first)
		got = whole(t, 3, 3, quality, a)
		if !same(got, first) || !alone(got) || !unspoilt(a, first) {
			t.Errorf("quality %d: Whole shares memory", quality)
		}
	}
}

// P5.1, R4: what Weights gives is its own.
func TestFreshWeights(t *testing.T) {
	for quality := 1; quality <= 2; quality++ {
		want := slices.Clone(weights(t, quality, 3))
		spoil([][]int{weights(t, quality, 3)}, 9999)
		if got := weights(t, quality, 3); !slices.Equal(got, want) {
			t.Errorf("Weights(%d, 3) = %v, not %v", quality, got, want)
		}
	}
}

// 5.2: a copy has all that the State has, and neither changes the other one.
func TestCopy(t *testing.T) {
	for quality := 1; quality <= 2; quality++ {
		s := begun(t, 3, 4, quality, 2)
		adjust(t, s, 123)
		pushed(t, s, api.Block{{1, 2, 3, 4}, {5, 6, 7, 8}})
		c, x := s.Copy(), s.Copy()
		adjust(t, s, -5)
		pushed(t, s, api.Block{{100, 200, 300, 400}, {500, 600, 700, 800}})
		drained(t, s, 2)
		next := api.Block{{9, 10, 11}, {12, 13, 14}}
		first := pushed(t, c, next)
		if c.Adjusted() != 123 || c.Came() != 7 || !same(first, pushed(t, x, next)) || !same(drained(t, c, 2), drained(t, x, 2)) {
			t.Errorf("quality %d: a copy is not the State that it was made of", quality)
		}
		m := newTold(3, 4, quality, 2)
		m.adjustment = 123
		m.push(api.Block{{1, 2, 3, 4}, {5, 6, 7, 8}})
		if want := m.push(next); !same(first, want) {
			t.Errorf("quality %d: a copy makes %v, not %v", quality, first, want)
		}
	}
}

// 5.2: behind Reset and Drain nothing is left of what came but the adjustment.
func TestAnew(t *testing.T) {
	for quality := 1; quality <= 2; quality++ {
		for _, drain := range []bool{false, true} {
			s, x := begun(t, 5, 7, quality, 1), begun(t, 5, 7, quality, 1)
			adjust(t, s, 50)
			adjust(t, x, 50)
			pushed(t, s, api.Block{{most, -most, most, 5, 6, 7, 8, most}})
			if drain {
				drained(t, s, 1)
			} else if e := s.Reset(); e != api.OK {
				t.Errorf("Reset = %d", e)
			}
			if got := drained(t, s, 1); len(got[0]) != 0 {
				t.Errorf("quality %d: Drain of nothing = %v", quality, got)
			}
			b := api.Block{{1, 2, 3}}
			if got, want := behind(pushed(t, s, b), drained(t, s, 1)), behind(pushed(t, x, b), drained(t, x, 1)); !same(got, want) {
				t.Errorf("quality %d: made anew %v, not %v", quality, got, want)
			}
		}
	}
}

// Details, R5: calls of a State that is none, or that New did not make.
func TestNoState(t *testing.T) {
	for _, s := range []*resample.State{nil, {}} {
		if e := s.Adjust(0); e != api.ErrInvalid {
			t.Errorf("Adjust = %d", e)
		}
		if e := s.Adjust(1 << 62); e != api.ErrInvalid {
			t.Errorf("Adjust = %d", e)
		}
		for _, b := range append(invalidBlocks(), api.Block{{1, 2, 3}}) {
			if out, e := s.Push(b); len(out) != 0 || e != api.ErrInvalid {
				t.Errorf("Push = %v, %d", out, e)
			}
		}
		if out, e := s.Drain(); len(out) != 0 || e != api.ErrInvalid {
			t.Errorf("Drain = %v, %d", out, e)
		}
		if e := s.Reset(); e != api.ErrInvalid {
			t.Errorf("Reset = %d", e)
		}
		if whole, num, den := s.Place(); whole != 0 || num != 0 || den != 0 {
			t.Errorf("Place = %d, %d, %d", whole, num, den)
		}
		if s.Adjusted() != 0 || s.Came() != 0 || s.Made() != 0 || s.Ahead() != 0 {
			t.Errorf("adjusted %d, came %d, made %d, ahead %d", s.Adjusted(), s.Came(), s.Made(), s.Ahead())
		}
	}
	var s *resample.State
	if s.Copy() != nil {
		t.Errorf("a copy of nil is not nil")
	}
}

// P5.1, R1: every call ends, and none panics, whatever it is given.
func TestAllCallsEnd(t *testing.T) {
	blocks := append(invalidBlocks(), filled(1, 0, 0), filled(8, api.MaxFrames, most))
	numbers := []int{-1 << 63, -1, 0, 1, 2, 8, 160, 255, api.MaxRate, api.MaxTime, 1 << 31, 1<<63 - 1}
	for _, in := range numbers {
		for _, out := range numbers {
			resample.Lowest(in, out)
			resample.Weights(in, out)
			for _, n := range numbers {
				resample.Frames(in, out, n)
				s, _ := resample.New(in, out, n, 8)
				s.Adjust(n)
				for _, b := range blocks {
					s.Push(b)
					s.Copy().Drain()
				}
				s.Place()
				s.Drain()
				s.Reset()
			}
		}
	}
	for _, b := range blocks {
		for _, in := range numbers {
			resample.Whole(in, 8, 2, b)
			resample.Whole(8, in, 1, b)
			resample.Whole(1, 2, in, b)
		}
	}
	new(resample.State).Copy().Push(blocks[0])
}
