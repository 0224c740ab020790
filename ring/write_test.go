package ring_test

import (
	"testing"

	"continuo/api"
	"continuo/ring"
)

// 7.3: Write writes as many as there is room for, Read and Skip are done with at most n.
func TestWriteAndRead(t *testing.T) {
	r := begun(t, 4, 1, 65533)
	wrote(t, r, 2, rising(1, 2)...)
	wrote(t, r, 2, rising(3, 7)...)
	wrote(t, r, 0, rising(9, 1)...)
	reads(t, r, 1, []int{1})
	wrote(t, r, 1, rising(5, 7)...)
	counted(t, "Skip", 2)(r.Skip(2))
	reads(t, r, 1<<63-1, rising(4, 2)...)
	reads(t, r, 5)
	counted(t, "Skip", 0)(r.Skip(5))
	wrote(t, r, 4, rising(6, 4)...)
	counted(t, "Skip", 4)(r.Skip(1<<63 - 1))
	wrote(t, r, 1, []int{-most})
	reads(t, r, 0)
	counted(t, "Skip", 0)(r.Skip(0))
	reads(t, r, 1, []int{-most})
}

// Details: Write sees, and Read and Skip look, also if nothing is written or read.
func TestNothingIsSeen(t *testing.T) {
	for _, look := range []func(r *ring.Ring){
		func(r *ring.Ring) { reads(t, r, 0) },
		func(r *ring.Ring) { counted(t, "Skip", 0)(r.Skip(0)) },
	} {
		r := begun(t, 4, 1, 65535)
		wrote(t, r, 3, rising(1, 3)...)
		if got := counters(r); got != [4]int{2, 65535, 65535, 65535} {
			t.Errorf("Counters = %v", got)
		}
		look(r)
		if got := counters(r); got != [4]int{2, 65535, 65535, 2} {
			t.Errorf("Counters = %v", got)
		}
		counted(t, "Take", 2)(r.Take(2))
		tells(t, "Done", r.Done(2), api.OK)
		wrote(t, r, 0)
		if got := counters(r); got != [4]int{2, 1, 1, 2} {
			t.Errorf("Counters = %v", got)
		}
		counted(t, "Claim", 3)(r.Claim(9))
	}
}

// 7.3, R9: with an error Write does not see, and Read and Skip do not look; each asks only for its own side.
func TestWriteAndReadErrors(t *testing.T) {
	for _, held := range []int{0, 1} {
		r := half(t)
		wrote(t, r, 2, []int{7, 7}, []int{8, 8})
		counted(t, "Take", held)(r.Take(held))
		for _, n := range []int{-1 << 63, -1} {
			refused(t, r, "Read", api.ErrRange, func(r *ring.Ring) api.Errno { return errorOf(r.Read(n)) })
			refused(t, r, "Skip", api.ErrRange, func(r *ring.Ring) api.Errno { return errorOf(r.Skip(n)) })
		}
		for _, n := range []int{0, 1, 9} {
			refused(t, r, "Read", api.ErrState, func(r *ring.Ring) api.Errno { return errorOf(r.Read(n)) })
			refused(t, r, "Skip", api.ErrState, func(r *ring.Ring) api.Errno { return errorOf(r.Skip(n)) })
		}
		wrote(t, r, 2, []int{9, 9}, []int{10, 10}, []int{11, 11})
		tells(t, "Done", r.Done(held), api.OK)
		counted(t, "Claim", 0)(r.Claim(held))
		counted(t, "Skip", 3)(r.Skip(3))
		for n := range 3 {
			l := [][]int{{1, 1}, {2, 2}, {3, 3}}[:n]
			refused(t, r, "Write", api.ErrState, func(r *ring.Ring) api.Errno { return errorOf(r.Write(l)) })
		}
		counted(t, "Skip", 5-held)(r.Skip(9))
	}
	r := half(t)
	for _, n := range []int{-1 << 63, -1} { // where nothing is taken
		refused(t, r, "Read", api.ErrRange, func(r *ring.Ring) api.Errno { return errorOf(r.Read(n)) })
		refused(t, r, "Skip", api.ErrRange, func(r *ring.Ring) api.Errno { return errorOf(r.Skip(n)) })
	}
}

// P7.6: Write, Read and Skip are their steps.
func TestBoth(t *testing.T) {
	for seed := range 300 {
		d := draws(seed)
		channels := d.channels()
		one := begun(t, d.size(), channels, d.first())
		two := one.Copy()
		for range 40 {
			frames, n := d.frames(d.below(10), channels), d.below(10)
			switch d.below(3) {
			case 0:
				counted(t, "Write", writeBySteps(two, frames))(one.Write(frames))
			case 1:
				reads(t, one, n, readBySteps(two, n)...)
			default:
				counted(t, "Skip", len(readBySteps(two, n)))(one.Skip(n))
			}
			if counters(one) != counters(two) {
				t.Fatalf("%v, by steps %v", counters(one), counters(two))
			}
		}
		if got, want := emptied(one), emptied(two); !same(got, want) {
			t.Fatalf("%v, by steps %v", got, want)
		}
	}
}

func writeBySteps(r *ring.Ring, frames [][]int) int {
	r.See()
	n, _ := r.Claim(len(frames))
	for i := range n {
		r.Put(i, frames[i])
	}
	r.Commit(n)
	return n
}

func readBySteps(r *ring.Ring, n int) [][]int {
	r.Look()
	n, _ = r.Take(n)
	var out [][]int
	for i := range n {
		frame, _ := r.Get(i)
		out = append(out, frame)
	}
	r.Done(n)
	return out
}
