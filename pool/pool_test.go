package pool_test

import (
	"slices"
	"testing"

	"continuo/api"
	"continuo/pool"
)

// Lending: at first free buffers are lent by number, then in the order in which they became free.
func TestOrderOfLending(t *testing.T) {
	p := plain(t, 4)
	if !slices.Equal(p.Free(), []int{0, 1, 2, 3}) {
		t.Errorf("Free = %v", p.Free())
	}
	for buffer := range 4 {
		gives(t, "Borrow", buffer)(p.Borrow(7))
	}
	if len(p.Free()) != 0 {
		t.Errorf("Free = %v", p.Free())
	}
	for _, buffer := range []int{2, 0, 3} {
		tells(t, "Give", p.Give(7, buffer), api.OK)
	}
	if !slices.Equal(p.Free(), []int{2, 0, 3}) {
		t.Errorf("Free = %v", p.Free())
	}
	gives(t, "Borrow", 2)(p.Borrow(8))
	tells(t, "Give", p.Give(7, 1), api.OK)
	tells(t, "Give", p.Give(8, 2), api.OK)
	for _, buffer := range []int{0, 3, 1, 2} {
		gives(t, "Borrow", buffer)(p.Borrow(9))
	}
}

// 8.2: Borrow's error, also where one holder has all, and holders at their bounds.
func TestFull(t *testing.T) {
	p := plain(t, 2)
	gives(t, "Borrow", 0)(p.Borrow(1))
	gives(t, "Borrow", 1)(p.Borrow(1000))
	for _, holder := range []int{1, 2, 1000} {
		refused(t, p, api.ErrFull, "Borrow", func() (any, api.Errno) { return result(p.Borrow(holder)) })
	}
	for _, holder := range noHolders() {
		refused(t, p, api.ErrRange, "Borrow", func() (any, api.Errno) { return result(p.Borrow(holder)) })
	}
	tells(t, "Give", p.Give(1000, 1), api.OK)
	gives(t, "Borrow", 1)(p.Borrow(1))
	lists(t, "Held", 0, 1)(p.Held(1))
}

// 8.2: a buffer that is shared is held until the last one gives it back, whoever borrowed it; its bytes stay.
func TestShareAndGive(t *testing.T) {
	p := plain(t, 2)
	p.Borrow(5)
	tells(t, "Write", p.Write(5, 0, 1, 0, "abcd"), api.OK)
	tells(t, "Share", p.Share(5, 0, 900), api.OK)
	tells(t, "Share", p.Share(900, 0, 3), api.OK)
	lists(t, "Holders", 3, 5, 900)(p.Holders(0))
	for _, holder := range []int{3, 5, 900} {
		reads(t, p, holder, 0, 1, "abcd")
		lists(t, "Held", 0)(p.Held(holder))
	}
	tells(t, "Give", p.Give(5, 0), api.OK)
	lists(t, "Holders", 3, 900)(p.Holders(0))
	lists(t, "Held")(p.Held(5))
	tells(t, "Share", p.Share(3, 0, 5), api.OK) // again
	tells(t, "Give", p.Give(900, 0), api.OK)
	tells(t, "Give", p.Give(5, 0), api.OK)
	if !slices.Equal(p.Free(), []int{1}) {
		t.Errorf("Free = %v", p.Free())
	}
	tells(t, "Give", p.Give(3, 0), api.OK)
	lists(t, "Holders")(p.Holders(0))
	if !slices.Equal(p.Free(), []int{1, 0}) || p.Copies() != 0 {
		t.Errorf("Free = %v, Copies = %d", p.Free(), p.Copies())
	}
	p.Borrow(1)
	gives(t, "Borrow", 0)(p.Borrow(2))
	reads(t, p, 2, 0, 1, "abcd")
}

// 8.2, Details: the errors of Share, in their order, also of sharing with oneself.
func TestShareErrors(t *testing.T) {
	p := plain(t, 2)
	p.Borrow(5)
	p.Share(5, 0, 6)
	refuse := func(want api.Errno, holder, buffer, with int) {
		t.Helper()
		refused(t, p, want, "Share", func() (any, api.Errno) { return nil, p.Share(holder, buffer, with) })
	}
	refuse(api.ErrDuplicate, 5, 0, 6)
	refuse(api.ErrDuplicate, 6, 0, 5)
	refuse(api.ErrDuplicate, 5, 0, 5)
	refuse(api.ErrState, 7, 0, 5)
	refuse(api.ErrState, 7, 0, 7)
	refuse(api.ErrState, 7, 0, 8)
	refuse(api.ErrState, 5, 1, 8) // it is free
	for _, n := range noHolders() {
		refuse(api.ErrRange, n, 0, 8)
		refuse(api.ErrRange, 5, 0, n)
		refuse(api.ErrRange, 7, 0, n)
	}
	for _, n := range append(extremes(), 2, 64) {
		refuse(api.ErrRange, 5, n, 6)
	}
}

// 8.2: the errors of Give and Own.
func TestGiveAndOwnErrors(t *testing.T) {
	p := plain(t, 2)
	p.Borrow(5)
	refuse := func(want api.Errno, holder, buffer int) {
		t.Helper()
		refused(t, p, want, "Give", func() (any, api.Errno) { return nil, p.Give(holder, buffer) })
		refused(t, p, want, "Own", func() (any, api.Errno) { return result(p.Own(holder, buffer)) })
	}
	refuse(api.ErrState, 6, 0)
	refuse(api.ErrState, 5, 1)
	for _, n := range noHolders() {
		refuse(api.ErrRange, n, 0)
	}
	for _, n := range append(extremes(), 2, 64) {
		refuse(api.ErrRange, 5, n)
	}
	tells(t, "Give", p.Give(5, 0), api.OK)
	refuse(api.ErrState, 5, 0)
}

// 8.2: Own of what nobody else holds is the same buffer.
func TestOwnAlone(t *testing.T) {
	p := plain(t, 1)
	p.Borrow(5)
	p.Write(5, 0, 0, 0, "abcd")
	old := p.Text()
	gives(t, "Own", 0)(p.Own(5, 0)) // though none is free
	if p.Text() != old {
		t.Errorf("Own changes the pool")
	}
	p.Share(5, 0, 6)
	p.Give(5, 0)
	gives(t, "Own", 0)(p.Own(6, 0)) // of another one, who is alone by now
	if p.Copies() != 0 {
		t.Errorf("Copies = %d", p.Copies())
	}
}

// 8.2: Own of what others hold is a copy of all blocks, in the buffer that is next.
func TestOwnShared(t *testing.T) {
	p := plain(t, 4)
	for range 4 {
		p.Borrow(5)
	}
	for buffer, bytes := range []string{"abcd", "efgh", "ijkl", "mnop"} {
		p.Write(5, buffer, 0, 0, bytes)
		p.Write(5, buffer, 1, 0, bytes[2:]+bytes[:2])
	}
	p.Give(5, 3)
	p.Give(5, 0)
	p.Share(5, 1, 6)
	p.Share(5, 1, 7)
	gives(t, "Own", 3)(p.Own(5, 1)) // of the one that borrowed it
	reads(t, p, 5, 3, 0, "efgh")
	reads(t, p, 5, 3, 1, "ghef")
	lists(t, "Holders", 6, 7)(p.Holders(1))
	lists(t, "Holders", 5)(p.Holders(3))
	tells(t, "Write", p.Write(5, 3, 0, 0, "EF"), api.OK)
	reads(t, p, 6, 1, 0, "efgh")
	gives(t, "Own", 0)(p.Own(7, 1))
	reads(t, p, 7, 0, 1, "ghef")
	gives(t, "Own", 1)(p.Own(6, 1)) // alone by now
	tells(t, "Write", p.Write(6, 1, 0, 3, "H"), api.OK)
	reads(t, p, 7, 0, 0, "efgh")
	reads(t, p, 6, 1, 0, "efgH")
	reads(t, p, 5, 2, 0, "ijkl")
	if p.Copies() != 2 || len(p.Free()) != 0 {
		t.Errorf("Copies = %d, Free = %v", p.Copies(), p.Free())
	}
}

// 8.2: Own where a copy is asked, and none is free.
func TestOwnFull(t *testing.T) {
	p := plain(t, 2)
	p.Borrow(5)
	p.Borrow(6)
	p.Share(5, 0, 6)
	for _, holder := range []int{5, 6} {
		refused(t, p, api.ErrFull, "Own", func() (any, api.Errno) { return result(p.Own(holder, 0)) })
	}
	refused(t, p, api.ErrState, "Own", func() (any, api.Errno) { return result(p.Own(7, 0)) })
	p.Give(6, 1)
	gives(t, "Own", 1)(p.Own(6, 0))
}

// 8.2: Leave gives back in the order of the buffers' numbers, and tells how many.
func TestLeave(t *testing.T) {
	p := plain(t, 5)
	for _, holder := range []int{1, 2, 1, 2, 1} {
		p.Borrow(holder)
	}
	p.Give(2, 3)
	p.Share(1, 4, 2)
	p.Share(2, 1, 1)
	lists(t, "Held", 0, 1, 2, 4)(p.Held(1))
	gives(t, "Leave", 4)(p.Leave(1))
	if !slices.Equal(p.Free(), []int{3, 0, 2}) {
		t.Errorf("Free = %v", p.Free())
	}
	lists(t, "Held")(p.Held(1))
	gives(t, "Leave", 0)(p.Leave(1))
	gives(t, "Leave", 0)(p.Leave(1000))
	gives(t, "Leave", 2)(p.Leave(2))
	if !slices.Equal(p.Free(), []int{3, 0, 2, 1, 4}) {
		t.Errorf("Free = %v", p.Free())
	}
	for _, holder := range noHolders() {
		refused(t, p, api.ErrRange, "Leave", func() (any, api.Errno) { return result(p.Leave(holder)) })
	}
}

// 8.3: Write and Read of parts of blocks.
func TestWriteAndRead(t *testing.T) {
	p := plain(t, 2)
	p.Borrow(5)
	p.Borrow(5)
	reads(t, p, 5, 1, 1, "\x00\x00\x00\x00")
	for _, c := range []struct {
		at    int
		bytes string
		want  string
	}{
		{0, "abcd", "abcd"},
		{1, "XY", "aXYd"},
		{3, "z", "aXYz"},
		{0, "", "aXYz"},
		{4, "", "aXYz"}, // at the end
		{2, "\x00\xff", "aX\x00\xff"},
	} {
		tells(t, "Write", p.Write(5, 1, 1, c.at, c.bytes), api.OK)
		for at := 0; at <= 4; at++ {
			for count := 0; at+count <= 4; count++ {
				if got, e := p.Read(5, 1, 1, at, count); got != c.want[at:at+count] || e != api.OK {
					t.Errorf("Read(%d, %d) = %q, %d", at, count, got, e)
				}
			}
		}
	}
	reads(t, p, 5, 1, 0, "\x00\x00\x00\x00")
	reads(t, p, 5, 0, 1, "\x00\x00\x00\x00")
}

// 8.3, Details: all numbers are asked ahead of who holds the buffer, and that ahead of who else does.
func TestWriteAndReadErrors(t *testing.T) {
	p := plain(t, 3)
	p.Borrow(5)
	p.Share(5, 0, 6)
	p.Borrow(5)
	write := func(want api.Errno, holder, buffer, block, at int, bytes string) {
		t.Helper()
		refused(t, p, want, "Write", func() (any, api.Errno) { return nil, p.Write(holder, buffer, block, at, bytes) })
	}
	read := func(want api.Errno, holder, buffer, block, at, count int) {
		t.Helper()
		refused(t, p, want, "Read", func() (any, api.Errno) { return result(p.Read(holder, buffer, block, at, count)) })
	}
	write(api.ErrDenied, 5, 0, 0, 0, "x")
	write(api.ErrDenied, 6, 0, 0, 0, "x")
	write(api.ErrDenied, 6, 0, 0, 4, "")
	reads(t, p, 6, 0, 0, "\x00\x00\x00\x00")
	for _, place := range [][2]int{{7, 0}, {6, 1}, {5, 2}} { // nobody, another one, free
		write(api.ErrState, place[0], place[1], 0, 0, "x")
		write(api.ErrState, place[0], place[1], 1, 4, "")
		read(api.ErrState, place[0], place[1], 0, 0, 4)
		read(api.ErrState, place[0], place[1], 0, 0, 0)
	}
	for _, place := range [][2]int{{5, 0}, {5, 1}, {5, 2}, {7, 0}} { // shared, alone, free, nobody
		holder, buffer := place[0], place[1]
		for _, n := range append(extremes(), 2, 8) {
			write(api.ErrRange, holder, buffer, n, 0, "x")
			read(api.ErrRange, holder, buffer, n, 0, 1)
		}
		for _, n := range append(extremes(), 3, 64) {
			write(api.ErrRange, holder, n, 0, 0, "x")
			read(api.ErrRange, holder, n, 0, 0, 1)
		}
		for _, n := range append(extremes(), 5, 8) {
			write(api.ErrRange, holder, buffer, 0, n, "")
			write(api.ErrRange, holder, buffer, 0, n, "x")
			read(api.ErrRange, holder, buffer, 0, n, 0)
			read(api.ErrRange, holder, buffer, 0, n, 1)
			read(api.ErrRange, holder, buffer, 0, 0, n)
			read(api.ErrRange, holder, buffer, 0, 4, n)
			read(api.ErrRange, holder, buffer, 0, n, n)
		}
		for at := range 5 {
			write(api.ErrRange, holder, buffer, 0, at, "abcde"[at:])
			read(api.ErrRange, holder, buffer, 0, at, 5-at)
		}
		for _, n := range noHolders() {
			write(api.ErrRange, n, buffer, 0, 0, "x")
			read(api.ErrRange, n, buffer, 0, 0, 1)
		}
	}
}

// 8.3: the errors of Holders and Held.
func TestListErrors(t *testing.T) {
	p := plain(t, 3)
	p.Borrow(5)
	for _, n := range append(extremes(), 3, 64) {
		refused(t, p, api.ErrRange, "Holders", func() (any, api.Errno) { return result(p.Holders(n)) })
	}
	for _, n := range noHolders() {
		refused(t, p, api.ErrRange, "Held", func() (any, api.Errno) { return result(p.Held(n)) })
	}
	lists(t, "Holders")(p.Holders(2))
	lists(t, "Held")(p.Held(1000))
}

// 8.3: who holds a buffer is told in the order of numbers, however many they are.
func TestManyHolders(t *testing.T) {
	p, want := plain(t, 1), []int{}
	p.Borrow(1000)
	for holder := 999; holder >= 1; holder-- {
		tells(t, "Share", p.Share(holder+1, 0, holder), api.OK)
	}
	for holder := 1; holder <= 1000; holder++ {
		want = append(want, holder)
	}
	lists(t, "Holders", want...)(p.Holders(0))
	for holder := 1; holder <= 1000; holder++ {
		if len(p.Free()) != 0 {
			t.Fatalf("it is free before %d left", holder)
		}
		gives(t, "Leave", 1)(p.Leave(holder))
	}
	gives(t, "Borrow", 0)(p.Borrow(1))
}

// 8.3: texts of pools that do not go on alike differ.
func TestTextsDiffer(t *testing.T) {
	texts := map[string]string{}
	add := func(what string, p *pool.Pool) {
		t.Helper()
		if other, known := texts[p.Text()]; known {
			t.Errorf("%s has the text of %s", what, other)
		}
		texts[p.Text()] = what
	}
	after := func(what string, calls func(p *pool.Pool)) {
		t.Helper()
		p := plain(t, 12)
		calls(p)
		add(what, p)
	}
	after("nothing", func(p *pool.Pool) {})
	after("a buffer that is held", func(p *pool.Pool) { p.Borrow(1) })
	after("another holder", func(p *pool.Pool) { p.Borrow(11) })
	after("two buffers", func(p *pool.Pool) { p.Borrow(1); p.Borrow(1) })
	after("two holders", func(p *pool.Pool) { p.Borrow(1); p.Share(1, 0, 11) })
	after("two others", func(p *pool.Pool) { p.Borrow(11); p.Share(11, 0, 111) })
	after("one that became free", func(p *pool.Pool) { p.Borrow(1); p.Give(1, 0) })
	after("two that became free", func(p *pool.Pool) { p.Borrow(1); p.Borrow(1); p.Leave(1) })
	after("in another order", func(p *pool.Pool) { p.Borrow(1); p.Borrow(1); p.Give(1, 1); p.Give(1, 0) })
	after("a byte", func(p *pool.Pool) { p.Borrow(1); p.Write(1, 0, 0, 0, "a") })
	after("a byte of a free one", func(p *pool.Pool) { p.Borrow(1); p.Write(1, 0, 0, 0, "a"); p.Give(1, 0) })
	after("the byte beside it", func(p *pool.Pool) { p.Borrow(1); p.Write(1, 0, 0, 1, "a") })
	after("the other block's byte", func(p *pool.Pool) { p.Borrow(1); p.Write(1, 0, 1, 0, "a") })
	after("a byte of no letter", func(p *pool.Pool) { p.Borrow(1); p.Write(1, 0, 0, 0, "\xff") })
	after("bytes of a letter that is none", func(p *pool.Pool) { p.Borrow(1); p.Write(1, 0, 0, 0, "\xef\xbf\xbd") })
	after("two bytes", func(p *pool.Pool) { p.Borrow(1); p.Write(1, 0, 0, 0, `\x`) })
	after("two other bytes", func(p *pool.Pool) { p.Borrow(1); p.Write(1, 0, 0, 0, "\n0") })
	after("all but a copy", func(p *pool.Pool) { p.Borrow(1); p.Borrow(2) })
	after("a copy", func(p *pool.Pool) { p.Borrow(1); p.Share(1, 0, 2); p.Own(2, 0) })
	for _, d := range []api.Deal{
		deal(1, 1, 4, 4, 4, 0), deal(1, 1, 4, 2, 4, 0), deal(1, 1, 4, 4, 2, 0), deal(1, 1, 4, 4, 4, 1),
		deal(1, 2, 4, 4, 4, 0), deal(2, 1, 4, 4, 4, 0), deal(1, 1, 12, 4, 4, 0), deal(1, 1, 8, 4, 4, 0),
	} {
		add("a deal", begun(t, d))
	}
}
