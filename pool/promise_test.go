package pool_test

import (
	"fmt"
	"slices"
	"strings"
	"testing"

	"continuo/api"
	"continuo/pool"
)

// drawn is what is drawn for a call.
type drawn struct {
	kind, holder, buffer, with, block, at, count int
	bytes                                        string
}

// call draws a call of few holders, often one that is possible.
func (d *draws) call(l api.Deal, p *pool.Pool) drawn {
	c := drawn{
		kind:   d.among(0, 0, 1, 1, 1, 2, 2, 3, 3, 5, 6),
		holder: d.among(1, 2, 3),
		buffer: d.below(l.Count),
		with:   d.among(1, 2, 3, 4),
		block:  d.below(l.Blocks),
		at:     d.below(l.Size + 1),
	}
	if held, _ := p.Held(c.holder); len(held) > 0 && d.below(3) > 0 {
		c.buffer = d.among(held...)
	}
	c.count = d.below(l.Size - c.at + 1)
	switch d.below(50) {
	case 6, 7:
		c.kind = 4
	case 0:
		c.holder = d.among(0, 1001, -1, 1000)
	case 1:
		c.buffer = d.among(-1, l.Count, 500)
	case 2:
		c.with = d.among(0, 1001, -1, 1000)
	case 3:
		c.block = d.among(-1, l.Blocks, 8)
	case 4:
		c.at = d.among(-1, l.Size+1, 1<<62)
	case 5:
		c.count = l.Size + 1
	}
	c.bytes = d.text(c.count)
	return c
}

// calls are those of a pool, and of what it is told to be.
type calls struct {
	borrow, leave func(holder int) (int, api.Errno)
	share         func(holder, buffer, with int) api.Errno
	give          func(holder, buffer int) api.Errno
	own           func(holder, buffer int) (int, api.Errno)
	write         func(holder, buffer, block, at int, bytes string) api.Errno
	read          func(holder, buffer, block, at, count int) (string, api.Errno)
}

func poolCalls(p *pool.Pool) calls {
	return calls{p.Borrow, p.Leave, p.Share, p.Give, p.Own, p.Write, p.Read}
}

func toldCalls(m *told) calls {
	return calls{m.borrow, m.leave, m.share, m.give, m.own, m.write, m.read}
}

// did does a call, and returns its results as a text.
func did(p calls, c drawn) string {
	switch c.kind {
	case 0:
		return fmt.Sprint(p.borrow(c.holder))
	case 1:
		return fmt.Sprint(p.share(c.holder, c.buffer, c.with))
	case 2:
		return fmt.Sprint(p.give(c.holder, c.buffer))
	case 3:
		return fmt.Sprint(p.own(c.holder, c.buffer))
	case 4:
		return fmt.Sprint(p.leave(c.holder))
	case 5:
		return fmt.Sprint(p.write(c.holder, c.buffer, c.block, c.at, c.bytes))
	}
	s, e := p.read(c.holder, c.buffer, c.block, c.at, c.count)
	return fmt.Sprintf("%q %d", s, e)
}

// 8.2, 8.3, P4: whatever is done, also what is not possible, a pool is as the chapter tells it, and its text says so.
func TestDrawn(t *testing.T) {
	states := map[string]string{}
	for seed := range 400 {
		d := draws(seed)
		l := d.deal()
		p, m := begun(t, l), newTold(l)
		for range 150 {
			c := d.call(l, p)
			got, want := did(poolCalls(p), c), did(toldCalls(m), c)
			if got != want {
				t.Fatalf("%v of %v = %s, not %s", c, l, got, want)
			}
			agree(t, p, m)
			state := m.state()
			if old, known := states[p.Text()]; known && old != state {
				t.Fatalf("%s and %s have one text", old, state)
			}
			states[p.Text()] = state
		}
	}
}

// state is all that a pool is told to be, as a text.
func (m *told) state() string {
	var held [][]int
	for buffer := range m.held {
		l, _ := m.holders(buffer)
		held = append(held, l)
	}
	return fmt.Sprintf("%v %q %v %v %d", m.deal, m.bytes, held, m.free, m.copies)
}

// P8.4: each buffer is free or held, and what is read changes only by Write of one who is alone.
func TestOne(t *testing.T) {
	for seed := range 300 {
		d := draws(seed)
		l := d.deal()
		p := begun(t, l)
		for range 150 {
			c := d.call(l, p)
			before, who := views(p, l), map[int][]int{}
			for buffer := range l.Count {
				who[buffer], _ = p.Holders(buffer)
			}
			told := did(poolCalls(p), c)
			for place, bytes := range views(p, l) {
				old, held := before[place]
				if !held || bytes == old {
					continue
				}
				if c.kind != 5 || told != "0" || place.buffer != c.buffer || !slices.Equal(who[c.buffer], []int{c.holder}) {
					t.Fatalf("%v = %s changes what %v reads", c, told, place)
				}
			}
			for buffer := range l.Count {
				holders, _ := p.Holders(buffer)
				if slices.Contains(p.Free(), buffer) != (len(holders) == 0) {
					t.Fatalf("%d is held by %v, and free are %v", buffer, holders, p.Free())
				}
			}
		}
	}
}

// view is a holder with a block that it holds.
type view struct{ holder, buffer, block int }

// views are all bytes that holders read.
func views(p *pool.Pool, l api.Deal) map[view]string {
	out := map[view]string{}
	for buffer := range l.Count {
		holders, _ := p.Holders(buffer)
		for _, holder := range holders {
			for block := range l.Blocks {
				out[view{holder, buffer, block}], _ = p.Read(holder, buffer, block, 0, l.Size)
			}
		}
	}
	return out
}

// P8.5: when all holders have left, all buffers are free, each once.
func TestBack(t *testing.T) {
	for seed := range 200 {
		d := draws(seed)
		l := d.deal()
		p := begun(t, l)
		for range 100 {
			did(poolCalls(p), d.call(l, p))
		}
		memory, copies, all := p.Memory(), p.Copies(), []int{}
		for _, holder := range []int{3, 1, 1000, 4, 2} {
			held, _ := p.Held(holder)
			gives(t, "Leave", len(held))(p.Leave(holder))
			lists(t, "Held")(p.Held(holder))
		}
		for buffer := range l.Count {
			all = append(all, buffer)
		}
		if free := slices.Sorted(slices.Values(p.Free())); !slices.Equal(free, all) {
			t.Fatalf("Free = %v of %d", free, l.Count)
		}
		if p.Memory() != memory || p.Copies() != copies {
			t.Fatalf("leaving changes the memory, or copies")
		}
	}
}

// P8.6: without Own nothing is copied, and each call of Own copies once, or not at all.
func TestCopies(t *testing.T) {
	some := 0
	for seed := range 200 {
		d := draws(seed)
		l := d.deal()
		p := begun(t, l)
		for range 150 {
			c := d.call(l, p)
			copies, memory := p.Copies(), p.Memory()
			holders, _ := p.Holders(c.buffer)
			told := did(poolCalls(p), c)
			copied := c.kind == 3 && len(holders) > 1 && strings.HasSuffix(told, " 0")
			if copied {
				copies++
				some++
			}
			if p.Copies() != copies {
				t.Fatalf("%v = %s: Copies = %d, not %d", c, told, p.Copies(), copies)
			}
			if !copied && c.kind != 5 && p.Memory() != memory {
				t.Fatalf("%v changes the memory", c)
			}
		}
	}
	if some < 100 {
		t.Errorf("%d copies are too few to tell", some)
	}
}

// R7: the same calls give the same.
func TestSameAgain(t *testing.T) {
	texts := []string{}
	for range 20 {
		d := draws(5)
		l := deal(6, 2, 4, 2, 8, 3)
		p, all := begun(t, l), ""
		for range 300 {
			all += did(poolCalls(p), d.call(l, p)) + p.Text()
		}
		texts = append(texts, all)
	}
	if len(slices.Compact(texts)) != 1 {
		t.Errorf("the same calls do not give the same")
	}
}
