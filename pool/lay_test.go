package pool_test

import (
	"slices"
	"strings"
	"testing"

	"continuo/api"
	"continuo/pool"
)

// Examples, 8.1: where blocks begin, and where the last one ends.
func TestLay(t *testing.T) {
	d := deal(2, 1, 12, 4, 8, 2)
	one := deal(1, 3, 5, 5, 4, 0)
	whole := deal(2, 2, 8, 4, 4, 0)
	for _, c := range []struct {
		deal api.Deal
		at   int
		want [][]int
		end  int
	}{
		{d, 0, [][]int{{0}, {16}}, 28},
		{d, 1, [][]int{{8}, {24}}, 36},
		{d, 7, [][]int{{8}, {24}}, 36},
		{d, 8, [][]int{{8}, {24}}, 36},
		{d, 9, [][]int{{16}, {32}}, 44},
		{d, 1000000000, [][]int{{1000000000}, {1000000016}}, 1000000028},
		{one, 0, [][]int{{0, 8, 16}}, 21},
		{one, 3, [][]int{{4, 12, 20}}, 25},
		{whole, 0, [][]int{{0, 8}, {16, 24}}, 32},
		{whole, 2, [][]int{{4, 12}, {20, 28}}, 36},
		{deal(1, 1, 1, 1, 1, 0), 3, [][]int{{3}}, 4},
		{deal(3, 1, 1, 1, 256, 0), 257, [][]int{{512}, {768}, {1024}}, 1025},
	} {
		got, end, e := pool.Lay(c.deal, c.at)
		if !sameLists(got, c.want) || end != c.end || e != api.OK {
			t.Errorf("Lay(%v, %d) = %v, %d, %d, not %v, %d", c.deal, c.at, got, end, e, c.want, c.end)
		}
	}
}

func sameLists(a, b [][]int) bool { return slices.EqualFunc(a, b, slices.Equal[[]int]) }

// 8.1, Details: Lay's errors, and New's.
func TestLayErrors(t *testing.T) {
	good := deal(2, 1, 12, 4, 8, 0)
	refuse := func(d api.Deal, at int, want api.Errno) {
		t.Helper()
		if got, end, e := pool.Lay(d, at); len(got) != 0 || end != 0 || e != want {
			t.Errorf("Lay(%v, %d) = %v, %d, %d, not %d", d, at, got, end, e, want)
		}
	}
	for _, at := range append(extremes(), 1000000001) {
		refuse(good, at, api.ErrRange)
	}
	for _, d := range noDeals() {
		refuse(d, 0, api.ErrInvalid)
		refuse(d, -1, api.ErrInvalid)
		if p, e := pool.New(d); p != nil || e != api.ErrInvalid {
			t.Errorf("New(%v) = %v, %d", d, p, e)
		}
	}
}

// Details: deals that are as large as deals can be.
func TestLargestDeals(t *testing.T) {
	for _, d := range []api.Deal{
		deal(16, 1, 62500, 1, 4, 0),
		deal(50, 8, 2500, 250, 4, 7),
		deal(1, 1, 65536, 256, 256, 0),
		deal(64, 8, 1792, 256, 256, 0),
		deal(64, 8, 1, 1, 256, 0),
	} {
		_, end, e := pool.Lay(d, 0)
		if end != laidOut(d, 0) || e != api.OK {
			t.Errorf("Lay(%v) ends at %d, %d", d, end, e)
		}
		p := begun(t, d)
		if p.Memory() != strings.Repeat("\x00", end) {
			t.Errorf("the memory of %v has %d bytes, not %d zeros", d, len(p.Memory()), end)
		}
	}
}

// P8.3: blocks begin at multiples of Align, do not overlap, and lie within at and end; each begins as early as it can.
func TestLayDrawn(t *testing.T) {
	d := draws(3)
	for range 3000 {
		l, at := d.deal(), d.among(0, d.below(300), api.MaxTime-d.below(300))
		if d.below(3) == 0 {
			l.Count, l.Blocks, l.Align = d.below(64)+1, d.below(8)+1, 1<<d.below(9)
		}
		got, end, e := pool.Lay(l, at)
		if e != api.OK || len(got) != l.Count || end != laidOut(l, at) {
			t.Fatalf("Lay(%v, %d) = %v, %d, %d", l, at, got, end, e)
		}
		last := at
		for _, blocks := range got {
			if len(blocks) != l.Blocks {
				t.Fatalf("Lay(%v, %d) = %v", l, at, got)
			}
			for _, offset := range blocks {
				if offset%l.Align != 0 || offset < last || offset >= last+l.Align {
					t.Fatalf("Lay(%v, %d): a block at %d, behind %d", l, at, offset, last)
				}
				last = offset + l.Size
			}
		}
		if last != end {
			t.Fatalf("Lay(%v, %d) ends at %d, not %d", l, at, end, last)
		}
	}
}

// P8.3, 8.3: what is written stands in the memory where Lay lays it, and nowhere else.
func TestMemoryIsAsLaid(t *testing.T) {
	d := draws(4)
	for range 300 {
		l := d.deal()
		p := begun(t, l)
		offsets, end, _ := pool.Lay(l, 0)
		want := make([]byte, end)
		for range l.Count {
			p.Borrow(1)
		}
		for buffer, blocks := range offsets {
			for block, offset := range blocks {
				bytes := d.text(l.Size)
				tells(t, "Write", p.Write(1, buffer, block, 0, bytes), api.OK)
				copy(want[offset:], bytes)
			}
		}
		if p.Memory() != string(want) {
			t.Fatalf("Memory of %v = %q, not %q", l, p.Memory(), want)
		}
	}
}
