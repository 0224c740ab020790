package pool_test

import (
	"slices"
	"testing"

	"continuo/api"
	"continuo/pool"
)

// spoil writes over a list, its room to spare too.
func spoil(l []int, n int) {
	all := l[:cap(l)]
	for i := range all {
		all[i] = n
	}
}

// P8.1, R4: Lay gives new memory, and no two buffers share any.
func TestFreshLay(t *testing.T) {
	l := deal(5, 3, 4, 4, 8, 0)
	got, _, _ := pool.Lay(l, 0)
	for buffer, blocks := range got {
		spoil(blocks, 1000+buffer)
	}
	for buffer, blocks := range got {
		if !slices.Equal(blocks, slices.Repeat([]int{1000 + buffer}, 3)) {
			t.Errorf("the offsets of %d share memory: %v", buffer, blocks)
		}
	}
	again, _, _ := pool.Lay(l, 0)
	if again[4][2] != 14*8 {
		t.Errorf("Lay again = %v", again)
	}
}

// P8.1, R4: lists of a pool are new memory.
func TestFreshLists(t *testing.T) {
	p := plain(t, 5)
	p.Borrow(1)
	p.Share(1, 0, 2)
	p.Borrow(2)
	old := p.Text()
	for range 2 {
		free := p.Free()
		held, _ := p.Held(2)
		holders, _ := p.Holders(0)
		if !slices.Equal(free, []int{2, 3, 4}) || !slices.Equal(held, []int{0, 1}) || !slices.Equal(holders, []int{1, 2}) {
			t.Fatalf("Free = %v, Held = %v, Holders = %v", free, held, holders)
		}
		for _, l := range [][]int{free, held, holders} {
			spoil(l, 77)
		}
	}
	if p.Text() != old {
		t.Errorf("lists share memory with the pool")
	}
	free := p.Free()
	p.Borrow(3)
	p.Give(1, 0)
	p.Give(2, 0)
	if !slices.Equal(free, []int{2, 3, 4}) {
		t.Errorf("a list changes with the pool: %v", free)
	}
}

// P8.1, R4: texts that were read stay what they are, whatever is written, and pools have nothing in common.
func TestFreshBytes(t *testing.T) {
	p, other := plain(t, 1), plain(t, 1)
	p.Borrow(1)
	p.Write(1, 0, 0, 0, "abcd")
	got, _ := p.Read(1, 0, 0, 0, 4)
	memory, text := p.Memory(), p.Text()
	p.Write(1, 0, 0, 0, "ABCD")
	if got != "abcd" || memory[:4] != "abcd" || text == p.Text() {
		t.Errorf("%q, %q change with the pool", got, memory)
	}
	if other.Text() != plain(t, 1).Text() {
		t.Errorf("pools share memory")
	}
}

// R5: calls of a pool that is none, also with numbers that are none.
func TestNoPool(t *testing.T) {
	var p *pool.Pool
	for _, n := range append(extremes(), 0, 1, 5, 1001) {
		for what, call := range map[string]func() (any, api.Errno){
			"Borrow":  func() (any, api.Errno) { return result(p.Borrow(n)) },
			"Share":   func() (any, api.Errno) { return nil, p.Share(n, n, n) },
			"Give":    func() (any, api.Errno) { return nil, p.Give(n, n) },
			"Own":     func() (any, api.Errno) { return result(p.Own(n, n)) },
			"Write":   func() (any, api.Errno) { return nil, p.Write(n, n, n, n, "x") },
			"Read":    func() (any, api.Errno) { return result(p.Read(n, n, n, n, n)) },
			"Leave":   func() (any, api.Errno) { return result(p.Leave(n)) },
			"Holders": func() (any, api.Errno) { return result(p.Holders(n)) },
			"Held":    func() (any, api.Errno) { return result(p.Held(n)) },
		} {
			refused(t, p, api.ErrInvalid, what, call)
		}
	}
	if len(p.Free()) != 0 || p.Copies() != 0 || p.Memory() != "" || p.Text() != "" {
		t.Errorf("Free = %v, Copies = %d, Memory = %q, Text = %q", p.Free(), p.Copies(), p.Memory(), p.Text())
	}
}

// P8.1, R1: a pool that New did not make has no buffers.
func TestPoolOfNothing(t *testing.T) {
	p := &pool.Pool{}
	refused(t, p, api.ErrFull, "Borrow", func() (any, api.Errno) { return result(p.Borrow(1)) })
	refused(t, p, api.ErrRange, "Share", func() (any, api.Errno) { return nil, p.Share(1, 0, 2) })
	refused(t, p, api.ErrRange, "Give", func() (any, api.Errno) { return nil, p.Give(1, 0) })
	refused(t, p, api.ErrRange, "Own", func() (any, api.Errno) { return result(p.Own(1, 0)) })
	refused(t, p, api.ErrRange, "Write", func() (any, api.Errno) { return nil, p.Write(1, 0, 0, 0, "") })
	refused(t, p, api.ErrRange, "Read", func() (any, api.Errno) { return result(p.Read(1, 0, 0, 0, 0)) })
	refused(t, p, api.ErrRange, "Holders", func() (any, api.Errno) { return result(p.Holders(0)) })
	gives(t, "Leave", 0)(p.Leave(1))
	lists(t, "Held")(p.Held(1))
	if len(p.Free()) != 0 || p.Copies() != 0 || p.Memory() != "" {
		t.Errorf("Free = %v, Copies = %d, Memory = %q", p.Free(), p.Copies(), p.Memory())
	}
}

// P8.1, R1: every call ends, and none panics, whatever it is given.
func TestAllCallsEnd(t *testing.T) {
	numbers := append(extremes(), 0, 1, 2, 3, 7, 8, 9, 63, 64, 65, 256, 1000, 1001, 65536, 1000000, 1000000001)
	pools := []*pool.Pool{plain(t, 1), plain(t, 4), {}, nil}
	for _, a := range numbers {
		for _, b := range numbers {
			for _, c := range numbers {
				w, l := wish(a, b, c, b, a, c, b), deal(a, c, b, c, a, b)
				pool.Valid(w)
				pool.Agree(w, w, a)
				pool.Agree(usual(), w, b)
				pool.Agree(usual(), usual(), c)
				pool.Fits(l, usual())
				pool.Fits(l, w)
				pool.Lay(l, b)
				pool.Lay(deal(2, 1, 4, 4, 8, 0), a)
				for _, p := range pools {
					p.Share(a, b, c)
					p.Write(1, 0, a, b, "abc")
					p.Write(a, b, c, 0, "")
					p.Read(1, 0, a, b, c)
					p.Read(a, b, 0, c, a)
				}
			}
			for _, p := range pools {
				p.Borrow(a)
				p.Own(a, b)
				p.Give(a, b)
				p.Holders(b)
				p.Held(a)
				p.Leave(b)
				p.Free()
				p.Copies()
			}
		}
	}
}
