package ring_test

import (
	"slices"
	"testing"

	"continuo/api"
	"continuo/ring"
)

const (
	most  = api.MaxSample
	round = 65536
)

// told is a ring as the chapter tells it. Its counters never go round; written and read are what happened since ever.
type told struct {
	size, channels, first       int
	places                      [][]int
	written, read, seen, looked int
	claimed, taken              int // -1: none
}

func newTold(size, channels, first int) *told {
	m := &told{size: size, channels: channels, first: first, claimed: -1, taken: -1}
	for range size {
		m.places = append(m.places, make([]int, channels))
	}
	return m
}

func (m *told) copy() *told {
	own := *m
	own.places = slices.Clone(m.places) // a place gets a new frame, never a new sample
	return &own
}

func (m *told) see() (int, api.Errno) {
	m.seen = m.read
	return m.size - (m.written - m.seen), api.OK
}

func (m *told) look() (int, api.Errno) {
	m.looked = m.written
	return m.looked - m.read, api.OK
}

// claim is Claim, and Take of the reader.
func (m *told) claim(n int) (int, api.Errno) { return grasp(&m.claimed, n, m.size-(m.written-m.seen)) }

func (m *told) take(n int) (int, api.Errno) { return grasp(&m.taken, n, m.looked-m.read) }

func grasp(held *int, n, there int) (int, api.Errno) {
	if n < 0 {
		return 0, api.ErrRange
	}
	if *held >= 0 {
		return 0, api.ErrState
	}
	*held = min(n, there)
	return *held, api.OK
}

func (m *told) put(i int, frame []int) api.Errno {
	if !m.fits(frame) {
		return api.ErrInvalid
	}
	e := grasped(m.claimed, i, m.claimed-1)
	if e == api.OK {
		m.places[(m.first+m.written+i)%m.size] = slices.Clone(frame)
	}
	return e
}

func (m *told) get(i int) ([]int, api.Errno) {
	e := grasped(m.taken, i, m.taken-1)
	if e != api.OK {
		return nil, e
	}
	return m.places[(m.first+m.read+i)%m.size], e
}

func (m *told) commit(n int) api.Errno { return release(&m.claimed, &m.written, n) }

func (m *told) done(n int) api.Errno { return release(&m.taken, &m.read, n) }

// grasped is the error of a number that may be 0 to top, where so many frames are held.
func grasped(held, n, top int) api.Errno {
	switch {
	case n < 0:
		return api.ErrRange
	case held < 0:
		return api.ErrState
	case n > top:
		return api.ErrRange
	}
	return api.OK
}

func release(held, counter *int, n int) api.Errno {
	e := grasped(*held, n, *held)
	if e == api.OK {
		*counter, *held = *counter+n, -1
	}
	return e
}

func (m *told) write(frames [][]int) (int, api.Errno) {
	if !m.fits(frames...) {
		return 0, api.ErrInvalid
	}
	if m.claimed >= 0 {
		return 0, api.ErrState
	}
	m.see()
	n, _ := m.claim(len(frames))
	for i := range n {
		m.put(i, frames[i])
	}
	return n, m.commit(n)
}

func (m *told) next(n int) ([][]int, api.Errno) {
	if n < 0 {
		return nil, api.ErrRange
	}
	if m.taken >= 0 {
		return nil, api.ErrState
	}
	m.look()
	n, _ = m.take(n)
	var out [][]int
	for i := range n {
		frame, _ := m.get(i)
		out = append(out, frame)
	}
	return out, m.done(n)
}

func (m *told) fits(frames ...[]int) bool {
	for _, frame := range frames {
		if len(frame) != m.channels || slices.Max(frame) > most || slices.Min(frame) < -most {
			return false
		}
	}
	return true
}

// agree compares what a ring tells of itself with what it is told to be.
func agree(t *testing.T, r *ring.Ring, m *told) {
	t.Helper()
	var want [4]int
	for i, n := range []int{m.written, m.read, m.seen, m.looked} {
		want[i] = (m.first + n) % round
	}
	if got := counters(r); got != want {
		t.Fatalf("Counters = %v, not %v", got, want)
	}
	w, rd := r.Claimed()
	if w != max(m.claimed, 0) || rd != max(m.taken, 0) {
		t.Fatalf("Claimed = %d, %d, not %d, %d", w, rd, m.claimed, m.taken)
	}
}

// counters are a ring's counters and views.
func counters(r *ring.Ring) [4]int {
	written, read, seen, looked := r.Counters()
	return [4]int{written, read, seen, looked}
}

// begun is New with what is right.
func begun(t *testing.T, size, channels, first int) *ring.Ring {
	t.Helper()
	r, e := ring.New(size, channels, first)
	if e != api.OK || r == nil {
		t.Fatalf("New(%d, %d, %d) = %v, %d", size, channels, first, r, e)
	}
	return r
}

// counted asks for a number, and OK.
func counted(t *testing.T, what string, want int) func(n int, e api.Errno) {
	return func(n int, e api.Errno) {
		t.Helper()
		if n != want || e != api.OK {
			t.Fatalf("%s = %d, %d, not %d", what, n, e, want)
		}
	}
}

// wrote is Write of frames, of which so many have room.
func wrote(t *testing.T, r *ring.Ring, want int, frames ...[]int) {
	t.Helper()
	counted(t, "Write", want)(r.Write(frames))
}

// reads is Read of what is there.
func reads(t *testing.T, r *ring.Ring, n int, want ...[]int) {
	t.Helper()
	if got, e := r.Read(n); !same(got, want) || e != api.OK {
		t.Fatalf("Read(%d) = %v, %d, not %v", n, got, e, want)
	}
}

// gets is Get of what was taken.
func gets(t *testing.T, r *ring.Ring, i int, want ...int) {
	t.Helper()
	if got, e := r.Get(i); !slices.Equal(got, want) || e != api.OK {
		t.Fatalf("Get(%d) = %v, %d, not %v", i, got, e, want)
	}
}

// tells asks for an error.
func tells(t *testing.T, what string, got, want api.Errno) {
	t.Helper()
	if got != want {
		t.Fatalf("%s = %d, not %d", what, got, want)
	}
}

// same reports whether two lists of frames are equal.
func same(a, b [][]int) bool { return slices.EqualFunc(a, b, slices.Equal[[]int]) }

// rising are frames of one channel: first, first + 1, ..
func rising(first, n int) [][]int {
	var out [][]int
	for i := range n {
		out = append(out, []int{first + i})
	}
	return out
}

func sizes() []int { return []int{1, 2, 4, 8, 16, 32, 64, 128, 256, 512, 1024} }

func noSizes() []int { return []int{-1 << 63, -4, -1, 0, 3, 6, 1023, 1025, 2048, 1 << 62} }

func noChannels() []int { return []int{-1 << 63, -1, 0, 9, 1<<63 - 1} }

func noCounters() []int { return []int{-1 << 63, -65536, -1, 65536, 65537, 1 << 32, 1<<63 - 1} }

// noFrames are no frames of two channels.
func noFrames() [][]int {
	return [][]int{nil, {}, {1}, {1, 2, 3}, make([]int, 8), {0, most + 1}, {-most - 1, 0}, {0, 1<<63 - 1}, {-1 << 63, 0}}
}

// draws are numbers that look drawn, the same ones each time.
type draws uint64

func (d *draws) below(n int) int {
	*d = *d*6364136223846793005 + 1442695040888963407
	return int(uint64(*d)>>33) % n
}

func (d *draws) channels() int { return d.below(api.MaxChannels) + 1 }

// size draws small sizes more often than large ones.
func (d *draws) size() int { return sizes()[d.below(d.below(11)+1)] }

// first draws a counter, often one that soon goes round.
func (d *draws) first() int { return []int{0, d.below(round), round - 1 - d.below(20)}[d.below(3)] }

func (d *draws) frame(channels int) []int {
	out := []int{}
	for range channels {
		out = append(out, d.below(2*most+1)-most)
	}
	return out
}

func (d *draws) frames(n, channels int) [][]int {
	var out [][]int
	for range n {
		out = append(out, d.frame(channels))
	}
	return out
}

// turn draws a turn that is right.
func (d *draws) turn() api.Pass {
	return api.Pass{Who: d.below(2), Kind: d.below(4), N: []int{d.below(3), d.below(20), 5000}[d.below(3)]}
}

func (d *draws) turns(n int) []api.Pass {
	var out []api.Pass
	for range n {
		out = append(out, d.turn())
	}
	return out
}
