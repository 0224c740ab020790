package ring_test

import (
	"slices"
	"testing"

	"continuo/api"
	"continuo/ring"
)

// 7.1: New makes a ring of zeros, all counters and views the first one, nothing claimed or taken.
func TestNew(t *testing.T) {
	for _, size := range sizes() {
		for channels := 1; channels <= api.MaxChannels; channels++ {
			for _, first := range []int{0, 1, 65535, 65000} {
				r := begun(t, size, channels, first)
				agree(t, r, newTold(size, channels, first))
				counted(t, "See", size)(r.See())
				counted(t, "Look", 0)(r.Look())
				counted(t, "Claim", size)(r.Claim(5000))
				tells(t, "Commit", r.Commit(size), api.OK)
				reads(t, r, 5000, slices.Repeat([][]int{make([]int, channels)}, size)...)
			}
		}
	}
}

// 7.1: New's errors.
func TestNewErrors(t *testing.T) {
	refuse := func(size, channels, first int) {
		t.Helper()
		if r, e := ring.New(size, channels, first); r != nil || e != api.ErrRange {
			t.Errorf("New(%d, %d, %d) = %v, %d", size, channels, first, r, e)
		}
	}
	for _, n := range noSizes() {
		refuse(n, 2, 0)
	}
	for _, n := range noChannels() {
		refuse(4, n, 0)
	}
	for _, n := range noCounters() {
		refuse(4, 2, n)
	}
}

// Examples: size 4, first 65,534.
func TestExample(t *testing.T) {
	r := begun(t, 4, 1, 65534)
	wrote(t, r, 3, rising(1, 3)...)
	written, read, _, _ := r.Counters()
	if written != 1 || read != 65534 {
		t.Errorf("Counters = %d, %d", written, read)
	}
	counted(t, "Filled", 3)(ring.Filled(written, read))
	counted(t, "Room", 1)(ring.Room(4, written, read))
	counted(t, "See", 1)(r.See())
	counted(t, "Look", 3)(r.Look())
}

// The ring: the writer knows of the reader only what it saw last.
func TestWriterView(t *testing.T) {
	r := begun(t, 4, 1, 0)
	wrote(t, r, 4, rising(1, 5)...)
	reads(t, r, 3, rising(1, 3)...)
	if got := counters(r); got != [4]int{4, 3, 0, 4} {
		t.Errorf("Counters = %v", got)
	}
	counted(t, "Claim", 0)(r.Claim(2)) // by its view all is filled
	tells(t, "Put", r.Put(0, []int{9}), api.ErrRange)
	counted(t, "See", 3)(r.See()) // the claim stays what it is
	tells(t, "Put", r.Put(0, []int{9}), api.ErrRange)
	tells(t, "Commit", r.Commit(0), api.OK)
	counted(t, "Claim", 2)(r.Claim(2))
	counted(t, "See", 3)(r.See()) // what is claimed is not written yet
	tells(t, "Put", r.Put(0, []int{5}), api.OK)
	tells(t, "Put", r.Put(1, []int{6}), api.OK)
	tells(t, "Commit", r.Commit(1), api.OK)
	counted(t, "Claim", 2)(r.Claim(5))
	if w, rd := r.Claimed(); w != 2 || rd != 0 {
		t.Errorf("Claimed = %d, %d", w, rd)
	}
	tells(t, "Commit", r.Commit(0), api.OK)
	reads(t, r, 9, rising(4, 2)...)
	if got := counters(r); got != [4]int{5, 5, 3, 5} {
		t.Errorf("Counters = %v", got)
	}
}

// The ring: the reader knows of the writer only what it saw last.
func TestReaderView(t *testing.T) {
	r := begun(t, 4, 1, 65535)
	wrote(t, r, 2, rising(1, 2)...)
	counted(t, "Take", 0)(r.Take(2))
	counted(t, "Look", 2)(r.Look()) // what is taken stays what it is
	_, e := r.Get(0)
	tells(t, "Get", e, api.ErrRange)
	tells(t, "Done", r.Done(0), api.OK)
	wrote(t, r, 1, []int{3})
	counted(t, "Take", 2)(r.Take(9)) // of three
	counted(t, "Look", 3)(r.Look())
	if w, rd := r.Claimed(); w != 0 || rd != 2 {
		t.Errorf("Claimed = %d, %d", w, rd)
	}
	gets(t, r, 1, 2)
	gets(t, r, 0, 1)
	gets(t, r, 1, 2)
	tells(t, "Done", r.Done(1), api.OK)
	counted(t, "Take", 1)(r.Take(1))
	gets(t, r, 0, 2) // again
	tells(t, "Done", r.Done(0), api.OK)
	reads(t, r, 9, rising(2, 2)...)
}

// The ring: the places are those of the counter modulo the size, and a place that was not put holds what it held before.
func TestPlacesThatWereNotPut(t *testing.T) {
	r := begun(t, 4, 2, 65533) // its place is 1
	counted(t, "Claim", 3)(r.Claim(3))
	tells(t, "Put", r.Put(2, []int{5, 6}), api.OK)
	tells(t, "Put", r.Put(0, []int{1, 2}), api.OK)
	tells(t, "Put", r.Put(2, []int{7, 8}), api.OK) // again
	tells(t, "Commit", r.Commit(3), api.OK)
	reads(t, r, 9, []int{1, 2}, []int{0, 0}, []int{7, 8})
	r.See()
	counted(t, "Claim", 4)(r.Claim(4)) // the places 0, 1, 2, 3
	tells(t, "Put", r.Put(3, []int{-1, -2}), api.OK)
	tells(t, "Commit", r.Commit(2), api.OK)
	reads(t, r, 9, []int{0, 0}, []int{1, 2})
	counted(t, "Claim", 2)(r.Claim(4)) // the places 2, 3, of which one was put and not committed
	tells(t, "Commit", r.Commit(2), api.OK)
	reads(t, r, 9, []int{0, 0}, []int{-1, -2})
}

// P7.2: what is taken is not written over, however late the reader is done with it.
func TestTakenIsKept(t *testing.T) {
	r := begun(t, 2, 1, 0)
	wrote(t, r, 2, rising(1, 2)...)
	r.Look()
	counted(t, "Take", 2)(r.Take(2))
	wrote(t, r, 0, rising(3, 2)...)
	gets(t, r, 0, 1)
	gets(t, r, 1, 2)
	tells(t, "Done", r.Done(1), api.OK)
	wrote(t, r, 1, rising(3, 2)...)
	reads(t, r, 9, rising(2, 2)...)
}

// refused asks for an error with which nothing changes.
func refused(t *testing.T, r *ring.Ring, what string, want api.Errno, call func(r *ring.Ring) api.Errno) {
	t.Helper()
	was, other, held := counters(r), r.Copy(), [2]int{}
	held[0], held[1] = r.Claimed()
	tells(t, what, call(r), want)
	w, rd := r.Claimed()
	if counters(r) != was || [2]int{w, rd} != held {
		t.Fatalf("%s changes %v, %v", what, counters(r), [2]int{w, rd})
	}
	if got, want := emptied(r.Copy()), emptied(other); !same(got, want) {
		t.Fatalf("%s makes of %v %v", what, want, got)
	}
}

// emptied returns all that a ring holds, its other places too.
func emptied(r *ring.Ring) [][]int {
	r.Commit(0)
	r.Done(0)
	out, _ := r.Read(5000)
	n, _ := r.See()
	r.Claim(n)
	r.Commit(n)
	rest, _ := r.Read(5000)
	return append(out, rest...)
}

// asks are the calls of one side, each with the number that it is about.
type asks struct {
	begin, held, end func(r *ring.Ring, n int) api.Errno
}

func bothSides() map[string]asks {
	frame := []int{1, 2}
	return map[string]asks{
		"writer": {
			func(r *ring.Ring, n int) api.Errno { return errorOf(r.Claim(n)) },
			func(r *ring.Ring, n int) api.Errno { return r.Put(n, frame) },
			func(r *ring.Ring, n int) api.Errno { return r.Commit(n) },
		},
		"reader": {
			func(r *ring.Ring, n int) api.Errno { return errorOf(r.Take(n)) },
			func(r *ring.Ring, n int) api.Errno { return errorOf(r.Get(n)) },
			func(r *ring.Ring, n int) api.Errno { return r.Done(n) },
		},
	}
}

// errorOf is the error of a call, which must have no other result then.
func errorOf[T any](out T, e api.Errno) api.Errno {
	switch x := any(out).(type) {
	case int:
		if e != api.OK && x != 0 {
			return -1
		}
	case []int:
		if e != api.OK && len(x) != 0 {
			return -1
		}
	case [][]int:
		if e != api.OK && len(x) != 0 {
			return -1
		}
	}
	return e
}

// half is a ring of 8 places of which 4 are filled, both views as they are.
func half(t *testing.T) *ring.Ring {
	r := begun(t, 8, 2, 65530)
	wrote(t, r, 6, []int{1, 1}, []int{2, 2}, []int{3, 3}, []int{4, 4}, []int{5, 5}, []int{6, -most})
	reads(t, r, 2, []int{1, 1}, []int{2, 2})
	r.See()
	return r
}

// 7.2, Details, R9: the errors of both sides' steps, and their order.
func TestStepErrors(t *testing.T) {
	below := []int{-1 << 63, -65536, -1}
	for side, ask := range bothSides() {
		r := half(t)
		for _, n := range []int{0, 1, 4, 5, 1<<63 - 1} {
			refused(t, r, side+" holds nothing", api.ErrState, func(r *ring.Ring) api.Errno { return ask.held(r, n) })
			refused(t, r, side+" ends nothing", api.ErrState, func(r *ring.Ring) api.Errno { return ask.end(r, n) })
		}
		for _, held := range []int{0, 1, 3, 4} {
			for _, n := range below { // ahead of ErrState
				refused(t, r, side+" begins below 0", api.ErrRange, func(r *ring.Ring) api.Errno { return ask.begin(r, n) })
				refused(t, r, side+" holds below 0", api.ErrRange, func(r *ring.Ring) api.Errno { return ask.held(r, n) })
				refused(t, r, side+" ends below 0", api.ErrRange, func(r *ring.Ring) api.Errno { return ask.end(r, n) })
			}
			tells(t, side+" begins", ask.begin(r, held), api.OK)
			for _, n := range below {
				refused(t, r, side+" begins below 0", api.ErrRange, func(r *ring.Ring) api.Errno { return ask.begin(r, n) })
				refused(t, r, side+" holds below 0", api.ErrRange, func(r *ring.Ring) api.Errno { return ask.held(r, n) })
				refused(t, r, side+" ends below 0", api.ErrRange, func(r *ring.Ring) api.Errno { return ask.end(r, n) })
			}
			for _, n := range []int{0, 1, 4, 65536, 1 << 62} {
				refused(t, r, side+" begins again", api.ErrState, func(r *ring.Ring) api.Errno { return ask.begin(r, n) })
				refused(t, r, side+" holds less", api.ErrRange, func(r *ring.Ring) api.Errno { return ask.held(r, held+n) })
				refused(t, r, side+" ends less", api.ErrRange, func(r *ring.Ring) api.Errno { return ask.end(r, held+n+1) })
			}
			for i := range held {
				tells(t, side+" holds", ask.held(r, i), api.OK)
			}
			tells(t, side+" ends", ask.end(r, 0), api.OK)
		}
		for _, n := range []int{1, 2, 1} { // all that are there
			tells(t, side+" begins", ask.begin(r, 1<<63-1), api.OK)
			tells(t, side+" ends", ask.end(r, n), api.OK)
		}
		tells(t, side+" begins", ask.begin(r, 5), api.OK)
		refused(t, r, side+" holds less", api.ErrRange, func(r *ring.Ring) api.Errno { return ask.held(r, 0) })
		tells(t, side+" ends", ask.end(r, 0), api.OK)
	}
}

// Errors: a frame that is none comes ahead of all that Put and Write are asked else.
func TestFrameErrors(t *testing.T) {
	good := []int{most, -most}
	for _, claimed := range []int{-1, 0, 2} {
		r := half(t)
		if claimed >= 0 {
			counted(t, "Claim", claimed)(r.Claim(claimed))
		}
		for _, bad := range noFrames() {
			for _, i := range []int{-1 << 63, -1, 0, 1, 2, 1<<63 - 1} {
				refused(t, r, "Put", api.ErrInvalid, func(r *ring.Ring) api.Errno { return r.Put(i, bad) })
			}
			for _, l := range [][][]int{{bad}, {good, bad}, {good, good, good, good, good, good, bad}} { // also where no room is
				refused(t, r, "Write", api.ErrInvalid, func(r *ring.Ring) api.Errno { return errorOf(r.Write(l)) })
			}
		}
	}
	r := half(t)
	wrote(t, r, 4, good, good, good, good, good)
	reads(t, r, 9, []int{3, 3}, []int{4, 4}, []int{5, 5}, []int{6, -most}, good, good, good, good)
}
