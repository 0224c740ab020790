package pool_test

import (
	"slices"
	"strings"
	"testing"

	"continuo/api"
	"continuo/pool"
)

const (
	bufferMost = 64
	blockMost  = 8
	sizeMost   = 65536
	memoryMost = 1000000
	holderMost = 1000
)

// told is a pool as the chapter tells it.
type told struct {
	deal   api.Deal
	bytes  [][]string // of each buffer's blocks
	held   [][]int    // by whom, in the order in which they came
	free   []int
	copies int
}

func newTold(d api.Deal) *told {
	m := &told{deal: d}
	for buffer := range d.Count {
		m.bytes = append(m.bytes, slices.Repeat([]string{strings.Repeat("\x00", d.Size)}, d.Blocks))
		m.held = append(m.held, nil)
		m.free = append(m.free, buffer)
	}
	return m
}

func (m *told) borrow(holder int) (int, api.Errno) {
	switch {
	case noHolder(holder):
		return 0, api.ErrRange
	case len(m.free) == 0:
		return 0, api.ErrFull
	}
	buffer := m.free[0]
	m.free = m.free[1:]
	m.held[buffer] = []int{holder}
	return buffer, api.OK
}

func (m *told) share(holder, buffer, with int) api.Errno {
	switch {
	case noHolder(holder) || m.noBuffer(buffer) || noHolder(with):
		return api.ErrRange
	case !slices.Contains(m.held[buffer], holder):
		return api.ErrState
	case slices.Contains(m.held[buffer], with):
		return api.ErrDuplicate
	}
	m.held[buffer] = append(m.held[buffer], with)
	return api.OK
}

func (m *told) give(holder, buffer int) api.Errno {
	switch {
	case noHolder(holder) || m.noBuffer(buffer):
		return api.ErrRange
	case !slices.Contains(m.held[buffer], holder):
		return api.ErrState
	}
	m.held[buffer] = slices.DeleteFunc(slices.Clone(m.held[buffer]), func(h int) bool { return h == holder })
	if len(m.held[buffer]) == 0 {
		m.free = append(slices.Clone(m.free), buffer)
	}
	return api.OK
}

func (m *told) own(holder, buffer int) (int, api.Errno) {
	switch {
	case noHolder(holder) || m.noBuffer(buffer):
		return 0, api.ErrRange
	case !slices.Contains(m.held[buffer], holder):
		return 0, api.ErrState
	case len(m.held[buffer]) == 1:
		return buffer, api.OK
	}
	own, e := m.borrow(holder)
	if e != api.OK {
		return 0, e
	}
	m.bytes[own] = slices.Clone(m.bytes[buffer])
	m.copies++
	return own, m.give(holder, buffer)
}

func (m *told) leave(holder int) (int, api.Errno) {
	if noHolder(holder) {
		return 0, api.ErrRange
	}
	n := 0
	for buffer := range m.held {
		if m.give(holder, buffer) == api.OK {
			n++
		}
	}
	return n, api.OK
}

func (m *told) write(holder, buffer, block, at int, bytes string) api.Errno {
	e := m.reach(holder, buffer, block, at, len(bytes))
	switch {
	case e != api.OK:
		return e
	case len(m.held[buffer]) > 1:
		return api.ErrDenied
	}
	old := m.bytes[buffer][block]
	m.bytes[buffer][block] = old[:at] + bytes + old[at+len(bytes):]
	return api.OK
}

func (m *told) read(holder, buffer, block, at, count int) (string, api.Errno) {
	if e := m.reach(holder, buffer, block, at, count); e != api.OK {
		return "", e
	}
	return m.bytes[buffer][block][at : at+count], api.OK
}

func (m *told) reach(holder, buffer, block, at, count int) api.Errno {
	switch {
	case noHolder(holder) || m.noBuffer(buffer) || block < 0 || block >= m.deal.Blocks:
		return api.ErrRange
	case at < 0 || at > m.deal.Size || count < 0 || count > m.deal.Size || at+count > m.deal.Size:
		return api.ErrRange
	case !slices.Contains(m.held[buffer], holder):
		return api.ErrState
	}
	return api.OK
}

func (m *told) holders(buffer int) ([]int, api.Errno) {
	if m.noBuffer(buffer) {
		return nil, api.ErrRange
	}
	return slices.Sorted(slices.Values(m.held[buffer])), api.OK
}

func (m *told) holds(holder int) ([]int, api.Errno) {
	if noHolder(holder) {
		return nil, api.ErrRange
	}
	var out []int
	for buffer, held := range m.held {
		if slices.Contains(held, holder) {
			out = append(out, buffer)
		}
	}
	return out, api.OK
}

// memory lays all blocks one behind the other, with zeros between them.
func (m *told) memory() string {
	out := ""
	for _, blocks := range m.bytes {
		for _, bytes := range blocks {
			for len(out)%m.deal.Align != 0 {
				out += "\x00"
			}
			out += bytes
		}
	}
	return out
}

func (m *told) noBuffer(n int) bool { return n < 0 || n >= m.deal.Count }

func noHolder(n int) bool { return n < 1 || n > holderMost }

// agree compares what a pool tells of itself with what it is told to be.
func agree(t *testing.T, p *pool.Pool, m *told) {
	t.Helper()
	if p.Memory() != m.memory() {
		t.Fatalf("Memory = %q, not %q", p.Memory(), m.memory())
	}
	if !slices.Equal(p.Free(), m.free) || p.Copies() != m.copies {
		t.Fatalf("Free = %v, Copies = %d, not %v, %d", p.Free(), p.Copies(), m.free, m.copies)
	}
	for buffer := range m.deal.Count {
		want, _ := m.holders(buffer)
		if got, e := p.Holders(buffer); !slices.Equal(got, want) || e != api.OK {
			t.Fatalf("Holders(%d) = %v, %d, not %v", buffer, got, e, want)
		}
	}
	for _, holder := range []int{1, 2, 3, 4, 5, 500, holderMost} {
		want, _ := m.holds(holder)
		if got, e := p.Held(holder); !slices.Equal(got, want) || e != api.OK {
			t.Fatalf("Held(%d) = %v, %d, not %v", holder, got, e, want)
		}
	}
}

// begun is New with what is right.
func begun(t *testing.T, d api.Deal) *pool.Pool {
	t.Helper()
	p, e := pool.New(d)
	if e != api.OK || p == nil {
		t.Fatalf("New(%v) = %v, %d", d, p, e)
	}
	return p
}

// plain is a pool of so many buffers, each with two blocks of four bytes, at multiples of eight.
func plain(t *testing.T, count int) *pool.Pool {
	t.Helper()
	return begun(t, deal(count, 2, 4, 2, 8, 1))
}

// gives asks for a number, and OK.
func gives(t *testing.T, what string, want int) func(n int, e api.Errno) {
	return func(n int, e api.Errno) {
		t.Helper()
		if n != want || e != api.OK {
			t.Fatalf("%s = %d, %d, not %d", what, n, e, want)
		}
	}
}

// lists asks for a list, and OK.
func lists(t *testing.T, what string, want ...int) func(l []int, e api.Errno) {
	return func(l []int, e api.Errno) {
		t.Helper()
		if !slices.Equal(l, want) || e != api.OK {
			t.Fatalf("%s = %v, %d, not %v", what, l, e, want)
		}
	}
}

// reads asks for bytes that a holder reads.
func reads(t *testing.T, p *pool.Pool, holder, buffer, block int, want string) {
	t.Helper()
	if got, e := p.Read(holder, buffer, block, 0, len(want)); got != want || e != api.OK {
		t.Fatalf("Read(%d, %d, %d) = %q, %d, not %q", holder, buffer, block, got, e, want)
	}
}

// tells asks for an error.
func tells(t *testing.T, what string, got, want api.Errno) {
	t.Helper()
	if got != want {
		t.Fatalf("%s = %d, not %d", what, got, want)
	}
}

// refused asks for an error of a call, with which nothing changes and nothing is told.
func refused(t *testing.T, p *pool.Pool, want api.Errno, what string, call func() (any, api.Errno)) {
	t.Helper()
	old := p.Text()
	got, e := call()
	if e != want || !empty(got) {
		t.Errorf("%s = %v, %d, not %d", what, got, e, want)
	}
	if p.Text() != old {
		t.Errorf("%s changes the pool", what)
	}
}

func empty(got any) bool {
	switch v := got.(type) {
	case int:
		return v == 0
	case string:
		return v == ""
	case []int:
		return len(v) == 0
	}
	return got == nil
}

// result makes of a call's two results what refused asks for.
func result[T any](v T, e api.Errno) (any, api.Errno) { return v, e }

func wish(least, most, blocks, size, stride, align, kinds int) api.Want {
	return api.Want{Least: least, Most: most, Blocks: blocks, Size: size, Stride: stride, Align: align, Kinds: kinds}
}

func deal(count, blocks, size, stride, align, kind int) api.Deal {
	return api.Deal{Count: count, Blocks: blocks, Size: size, Stride: stride, Align: align, Kind: kind}
}

// usual is a wish that is valid.
func usual() api.Want {
	return wish(2, 8, 2, 10, 4, 8, 6)
}

// noWishes are wishes of which one number is wrong each.
func noWishes() []api.Want {
	var out []api.Want
	spoil := func(at func(w *api.Want) *int, numbers ...int) {
		for _, n := range append(numbers, extremes()...) {
			w := usual()
			*at(&w) = n
			out = append(out, w)
		}
	}
	spoil(func(w *api.Want) *int { return &w.Least }, 0, 9, 64, 65)
	spoil(func(w *api.Want) *int { return &w.Most }, 0, 1, 65, 100)
	spoil(func(w *api.Want) *int { return &w.Blocks }, 0, 9)
	spoil(func(w *api.Want) *int { return &w.Size }, 0, 1, 3, 65537)
	spoil(func(w *api.Want) *int { return &w.Stride }, 0, 11, 257)
	spoil(func(w *api.Want) *int { return &w.Align }, 0, 3, 5, 6, 7, 9, 96, 255, 257, 512, 65536)
	spoil(func(w *api.Want) *int { return &w.Kinds }, 0, 256, 257, 512)
	return append(out, api.Want{}, wish(5, 4, 1, 1, 1, 1, 1), wish(2, 8, 2, 600, 257, 8, 6))
}

// noDeals are deals of which one number is wrong each, and some that are too large as a whole.
func noDeals() []api.Deal {
	var out []api.Deal
	spoil := func(at func(d *api.Deal) *int, numbers ...int) {
		for _, n := range append(numbers, extremes()...) {
			d := deal(2, 1, 12, 4, 8, 2)
			*at(&d) = n
			out = append(out, d)
		}
	}
	spoil(func(d *api.Deal) *int { return &d.Count }, 0, 65, 100)
	spoil(func(d *api.Deal) *int { return &d.Blocks }, 0, 9)
	spoil(func(d *api.Deal) *int { return &d.Size }, 0, 1, 2, 3, 10, 13, 65540)
	spoil(func(d *api.Deal) *int { return &d.Stride }, 0, 5, 24, 257)
	spoil(func(d *api.Deal) *int { return &d.Align }, 0, 3, 6, 24, 257, 512)
	spoil(func(d *api.Deal) *int { return &d.Kind }, 8, 9, 255)
	return append(out, api.Deal{},
		deal(16, 1, 62501, 1, 1, 0),
		deal(17, 1, 58817, 1, 8, 0), // 1,000,001 bytes
		deal(13, 2, 38401, 1, 64, 0),
		deal(64, 8, 1954, 1, 1, 0),
		deal(64, 8, 1793, 1, 256, 0),
		deal(1, 1, 65664, 256, 1, 0),
		deal(1, 1, 257, 257, 1, 0))
}

func extremes() []int { return []int{-1 << 63, -1, -1 << 31, 1 << 31, 1 << 62, 1<<63 - 1} }

func noHolders() []int { return append(extremes(), 0, 1001, 2000) }

// draws are numbers that look drawn, the same ones each time.
type draws uint64

func (d *draws) below(n int) int {
	*d = *d*6364136223846793005 + 1442695040888963407
	return int(uint64(*d)>>33) % n
}

func (d *draws) among(numbers ...int) int { return numbers[d.below(len(numbers))] }

// text draws bytes.
func (d *draws) text(n int) string {
	var out []byte
	for range n {
		out = append(out, byte(d.below(256)))
	}
	return string(out)
}

// wish draws a wish that is valid, and often agrees with another one.
func (d *draws) wish() api.Want {
	least := d.among(1, 2, 3, 60, d.below(64)+1)
	stride := d.among(1, 4, 4, 4, d.below(256)+1)
	return api.Want{
		Least:  least,
		Most:   min(least+d.among(0, 3, 70, d.below(64)), bufferMost),
		Blocks: d.among(1, 2, 2, d.below(8)+1),
		Size:   min(stride+d.among(0, 1, d.below(20), d.below(2000), d.below(sizeMost)), sizeMost),
		Stride: stride,
		Align:  1 << d.below(9),
		Kinds:  d.below(255) + 1,
	}
}

// deal draws a deal that is valid, of few bytes.
func (d *draws) deal() api.Deal {
	stride := d.below(3) + 1
	return api.Deal{
		Count:  d.below(5) + 1,
		Blocks: d.below(3) + 1,
		Size:   stride * (d.below(3) + 1),
		Stride: stride,
		Align:  1 << d.below(5),
		Kind:   d.below(8),
	}
}
