package ring_test

import (
	"slices"
	"testing"

	"continuo/api"
	"continuo/ring"
)

// 7.1 to 7.3, P7.2, P4: whatever both sides do, also what is not possible, a ring is as the chapter tells it.
func TestDrawn(t *testing.T) {
	for seed := range 1000 {
		d := draws(seed)
		size, channels, first := d.size(), d.channels(), d.first()
		r, m := begun(t, size, channels, first), newTold(size, channels, first)
		for range 60 {
			step(t, &d, r, m)
			agree(t, r, m)
			if d.below(8) == 0 {
				old, was := r, m.copy()
				r = r.Copy()
				step(t, &d, r, m)
				agree(t, r, m)
				agree(t, old, was)
				step(t, &d, old, was)
				agree(t, old, was)
			}
		}
	}
}

// step does one thing with a ring and with what it is told to be.
func step(t *testing.T, d *draws, r *ring.Ring, m *told) {
	t.Helper()
	n := []int{-1, 0, d.below(3), d.below(m.size + 1), d.below(2*m.size + 1)}[d.below(5)]
	kind := d.below(11)
	got, gotError := did(d.copy(), ringCalls(r), kind, n, m.channels)
	want, wantError := did(d, toldCalls(m), kind, n, m.channels)
	if !same(got, want) || gotError != wantError {
		t.Fatalf("call %d with %d = %v, %d, not %v, %d", kind, n, got, gotError, want, wantError)
	}
}

// copy is for drawing the same again.
func (d *draws) copy() *draws {
	own := *d
	return &own
}

// calls are those of a ring, and of what it is told to be.
type calls struct {
	counts []func() (int, api.Errno)
	begins []func(n int) (int, api.Errno)
	ends   []func(n int) api.Errno
	put    func(i int, frame []int) api.Errno
	get    func(i int) ([]int, api.Errno)
	write  func(frames [][]int) (int, api.Errno)
	read   func(n int) ([][]int, api.Errno)
}

func ringCalls(r *ring.Ring) calls {
	return calls{
		[]func() (int, api.Errno){r.See, r.Look},
		[]func(n int) (int, api.Errno){r.Claim, r.Take, r.Skip},
		[]func(n int) api.Errno{r.Commit, r.Done},
		r.Put, r.Get, r.Write, r.Read,
	}
}

func toldCalls(m *told) calls {
	skip := func(n int) (int, api.Errno) {
		out, e := m.next(n)
		return len(out), e
	}
	return calls{
		[]func() (int, api.Errno){m.see, m.look},
		[]func(n int) (int, api.Errno){m.claim, m.take, skip},
		[]func(n int) api.Errno{m.commit, m.done},
		m.put, m.get, m.write, m.next,
	}
}

// did does one call, and returns its result as frames.
func did(d *draws, c calls, kind, n, channels int) ([][]int, api.Errno) {
	frames := d.frames(max(n, 0), channels)
	if len(frames) > 0 && d.below(10) == 0 {
		frames[d.below(n)][d.below(channels)] = most + 1
	}
	switch kind {
	case 0, 1:
		return single(c.counts[kind]())
	case 2, 3, 4:
		return single(c.begins[kind-2](n))
	case 5, 6:
		return nil, c.ends[kind-5](n)
	case 7:
		return nil, c.put(n, append(frames, d.frame(channels))[0])
	case 8:
		frame, e := c.get(n)
		return [][]int{frame}, e
	case 9:
		return single(c.write(frames))
	}
	return c.read(n)
}

func single(n int, e api.Errno) ([][]int, api.Errno) { return [][]int{{n}}, e }

// P7.3, P7.4: an old view shows no more room, and no more frames, than there are, and filled and room together are the size.
func TestViewsAndRoom(t *testing.T) {
	for seed := range 500 {
		d := draws(seed)
		size, channels, first := d.size(), d.channels(), d.first()
		r, m := begun(t, size, channels, first), newTold(size, channels, first)
		for range 60 {
			step(t, &d, r, m)
			written, read, _, _ := r.Counters()
			filled, e := ring.Filled(written, read)
			tells(t, "Filled", e, api.OK)
			room, e := ring.Room(size, written, read)
			tells(t, "Room", e, api.OK)
			if filled > size || filled+room != size {
				t.Fatalf("%d are filled, room is for %d of %d", filled, room, size)
			}
			by := r.Copy()
			by.Commit(0)
			by.Done(0)
			claimed, _ := by.Claim(1 << 30)
			taken, _ := by.Take(1 << 30)
			if claimed > room || taken > filled {
				t.Fatalf("room %d by the view, filled %d, not %d, %d", claimed, taken, room, filled)
			}
			counted(t, "See", room)(by.See())
			counted(t, "Look", filled)(by.Look())
		}
	}
}

// P7.2: what the reader is done with is what was committed, in order, each once, and the rest is filled.
func TestKept(t *testing.T) {
	for seed := range 300 {
		d := draws(seed)
		r := begun(t, d.size(), 1, d.first())
		var committed, kept [][]int
		next, gotten := 0, [][]int{}
		for range 200 {
			switch d.below(8) {
			case 0:
				r.See()
			case 1:
				r.Look()
			case 2:
				n, _ := r.Claim(d.below(12))
				for i := range n {
					r.Put(i, []int{next + i})
				}
			case 3:
				held, _ := r.Claimed()
				n := d.below(held + 1)
				if r.Commit(n) == api.OK {
					committed, next = append(committed, rising(next, n)...), next+n
				}
			case 4:
				n, e := r.Take(d.below(12))
				for i := range n {
					frame, _ := r.Get(i)
					gotten = append(gotten, frame)
				}
				if e == api.OK && n == 0 {
					gotten = nil
				}
			case 5:
				n := d.below(len(gotten) + 1)
				if r.Done(n) == api.OK {
					kept, gotten = append(kept, gotten[:n]...), nil
				}
			case 6:
				frames := rising(next, d.below(12))
				n, _ := r.Write(frames)
				committed, next = append(committed, frames[:n]...), next+n
			default:
				frames, _ := r.Read(d.below(12))
				kept = append(kept, frames...)
			}
			written, read, _, _ := r.Counters()
			if len(kept) > len(committed) || !same(kept, committed[:len(kept)]) {
				t.Fatalf("%v is no beginning of %v", kept, committed)
			}
			counted(t, "Filled", len(committed)-len(kept))(ring.Filled(written, read))
		}
		r.Done(0)
		reads(t, r, 5000, committed[len(kept):]...)
	}
}

// P7.5: a ring that begins with another counter does the same, but for its counters.
func TestRound(t *testing.T) {
	for seed := range 300 {
		d := draws(seed)
		size, channels, first := d.size(), d.channels(), d.first()
		one, two := begun(t, size, channels, 0), begun(t, size, channels, first)
		for range 100 {
			kind, n := d.below(11), d.below(size+2)
			want, wantError := did(d.copy(), ringCalls(one), kind, n, channels)
			got, gotError := did(&d, ringCalls(two), kind, n, channels)
			if !same(got, want) || gotError != wantError {
				t.Fatalf("call %d from %d = %v, %d, not %v, %d", kind, first, got, gotError, want, wantError)
			}
			ahead := counters(one)
			for i := range ahead {
				ahead[i] = (ahead[i] + first) % round
			}
			if counters(two) != ahead {
				t.Fatalf("counters from %d are %v, not %v", first, counters(two), ahead)
			}
		}
		if got, want := emptied(two), emptied(one); !same(got, want) {
			t.Fatalf("%v, not %v", got, want)
		}
	}
}

// P7.5: a ring goes round more than once, with rests of all lengths.
func TestRoundAndRound(t *testing.T) {
	for _, size := range []int{1, 2, 64, 1024} {
		r := begun(t, size, 1, 65000)
		written, read := 0, 0
		for read < 3*round {
			n, e := r.Write(rising(written, size/2+1))
			tells(t, "Write", e, api.OK)
			written += n
			got, e := r.Read(size/3 + 1)
			if e != api.OK || !same(got, rising(read, len(got))) || len(got) == 0 {
				t.Fatalf("size %d: Read at %d = %v, %d", size, read, got, e)
			}
			read += len(got)
		}
		if got := counters(r); got[0] != (65000+written)%round || got[1] != (65000+read)%round {
			t.Errorf("Counters = %v", got)
		}
		reads(t, r, size, rising(read, written-read)...)
	}
}

// R7: the same calls give the same.
func TestSameAgain(t *testing.T) {
	frames, steps := rising(1, 30), join(sends(8), hears(5), sends(8), hears(9))
	want, left, _ := ring.Play(8, 1, 9, frames, steps)
	for range 20 {
		if got, n, e := ring.Play(8, 1, 9, slices.Clone(frames), steps); !same(got, want) || n != left || e != api.OK {
			t.Errorf("Play = %v, %d, %d, not %v, %d", got, n, e, want, left)
		}
	}
}
