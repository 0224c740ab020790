package ring_test

import (
	"slices"
	"testing"

	"continuo/api"
	"continuo/ring"
)

// roomy returns a list that shares nothing with l, and has room to spare, with marks in it.
func roomy(l []int) []int {
	out := append(make([]int, 0, len(l)+3), l...)
	for i := len(l); i < cap(out); i++ {
		out[:cap(out)][i] = 77
	}
	return out
}

// roomyFrames are frames with room to spare, in a list that has room to spare too.
func roomyFrames(l [][]int) [][]int {
	out := make([][]int, 0, len(l)+2)
	for _, frame := range l {
		out = append(out, roomy(frame))
	}
	out[:cap(out)][len(out)] = []int{78}
	return out
}

// unspoilt reports whether frames and their room to spare are as roomyFrames made them of l.
func unspoilt(got, l [][]int) bool {
	if !same(got, l) || !slices.Equal(got[:cap(got)][len(got)], []int{78}) || got[:cap(got)][len(got)+1] != nil {
		return false
	}
	return !slices.ContainsFunc(got, func(frame []int) bool {
		return slices.ContainsFunc(frame[len(frame):cap(frame)], func(n int) bool { return n != 77 })
	})
}

// spoil writes over frames, their room to spare too.
func spoil(l [][]int, n int) {
	for _, frame := range l {
		all := frame[:cap(frame)]
		for i := range all {
			all[i] = n
		}
	}
}

// alone reports whether no two frames share memory: each is written over with a number of its own.
func alone(l [][]int) bool {
	for i := range l {
		spoil(l[i:i+1], 1000+i)
	}
	for i, frame := range l {
		if slices.ContainsFunc(frame, func(n int) bool { return n != 1000+i }) {
			return false
		}
	}
	return true
}

// P7.1, R4: Put and Write copy frames, and leave them as they are.
func TestFramesAreCopied(t *testing.T) {
	want := [][]int{{1, 2}, {3, 4}, {5, 6}}
	r, frames := begun(t, 4, 2, 65534), roomyFrames(want)
	wrote(t, r, 2, frames[:2]...)
	r.Claim(1)
	tells(t, "Put", r.Put(0, frames[2]), api.OK)
	tells(t, "Commit", r.Commit(1), api.OK)
	if !unspoilt(frames, want) {
		t.Errorf("frames are spoilt: %v", frames)
	}
	spoil(frames, 9)
	reads(t, r, 4, want...)
}

// P7.1, R4: Get and Read give new memory.
func TestFramesAreNew(t *testing.T) {
	want := [][]int{{1, 2}, {3, 4}, {5, 6}, {7, 8}}
	r := begun(t, 4, 2, 65534)
	wrote(t, r, 4, want...)
	r.Look()
	r.Take(4)
	var got [][]int
	for _, i := range []int{0, 1, 2, 3, 0, 3} {
		frame, _ := r.Get(i)
		got = append(got, frame)
	}
	if !alone(got) {
		t.Errorf("Get shares memory: %v", got)
	}
	for i := range want {
		gets(t, r, i, want[i]...)
	}
	tells(t, "Done", r.Done(0), api.OK)
	c := r.Copy()
	got, _ = r.Read(4)
	if !same(got, want) || !alone(got) {
		t.Errorf("Read shares memory: %v", got)
	}
	reads(t, c, 4, want...)
	r.See()
	r.Claim(4)
	r.Commit(4) // what it held before
	reads(t, r, 4, want...)
}

// P7.1, R4: Play leaves its frames and turns as they are, and gives new memory.
func TestFreshPlay(t *testing.T) {
	want, turns := [][]int{{1, 2}, {3, 4}, {5, 6}}, join(sends(3), hears(2))
	frames, steps := roomyFrames(want), append(slices.Clone(turns), api.Pass{Who: 5})[:len(turns)]
	got, left, e := ring.Play(4, 2, 65534, frames, steps)
	if !same(got, want[:2]) || left != 1 || e != api.OK || !alone(got) {
		t.Errorf("Play = %v, %d, %d", got, left, e)
	}
	if !unspoilt(frames, want) || !slices.Equal(steps, turns) || steps[:len(turns)+1][len(turns)] != (api.Pass{Who: 5}) {
		t.Errorf("Play spoils %v, %v", frames, steps)
	}
}

// 7.3: a copy has all that the ring has, a claim and a taking too, and neither changes the other one.
func TestCopy(t *testing.T) {
	r := half(t)
	r.Look()
	r.Take(2)
	r.Claim(3)
	r.Put(1, []int{8, 8})
	c := r.Copy()
	for _, ring := range []*ring.Ring{r, c} {
		if w, rd := ring.Claimed(); w != 3 || rd != 2 {
			t.Errorf("Claimed = %d, %d", w, rd)
		}
		if counters(ring) != [4]int{0, 65532, 65532, 0} {
			t.Errorf("Counters = %v", counters(ring))
		}
	}
	tells(t, "Put", r.Put(0, []int{7, 7}), api.OK)
	tells(t, "Commit", r.Commit(3), api.OK)
	tells(t, "Put", c.Put(0, []int{9, 9}), api.OK)
	tells(t, "Commit", c.Commit(2), api.OK)
	gets(t, c, 1, 4, 4)
	tells(t, "Done", r.Done(2), api.OK)
	tells(t, "Done", c.Done(1), api.OK)
	wrote(t, c, 3, []int{1, 0}, []int{2, 0}, []int{3, 0}, []int{4, 0})
	reads(t, r, 9, []int{5, 5}, []int{6, -most}, []int{7, 7}, []int{8, 8}, []int{1, 1})
	reads(t, c, 9, []int{4, 4}, []int{5, 5}, []int{6, -most}, []int{9, 9}, []int{8, 8}, []int{1, 0}, []int{2, 0}, []int{3, 0})
}

// R5: calls of a ring that is none.
func TestNoRing(t *testing.T) {
	var r *ring.Ring
	for _, n := range []int{-1 << 63, -1, 0, 1, 1<<63 - 1} {
		for side, ask := range bothSides() {
			tells(t, side+" begins", ask.begin(r, n), api.ErrInvalid)
			tells(t, side+" holds", ask.held(r, n), api.ErrInvalid)
			tells(t, side+" ends", ask.end(r, n), api.ErrInvalid)
		}
		tells(t, "Read", errorOf(r.Read(n)), api.ErrInvalid)
		tells(t, "Skip", errorOf(r.Skip(n)), api.ErrInvalid)
		tells(t, "Put", r.Put(n, nil), api.ErrInvalid)
	}
	tells(t, "See", errorOf(r.See()), api.ErrInvalid)
	tells(t, "Look", errorOf(r.Look()), api.ErrInvalid)
	tells(t, "Write", errorOf(r.Write(nil)), api.ErrInvalid)
	tells(t, "Write", errorOf(r.Write([][]int{{1}})), api.ErrInvalid)
	w, rd := r.Claimed()
	if counters(r) != [4]int{} || w != 0 || rd != 0 || r.Copy() != nil {
		t.Errorf("Counters = %v, Claimed = %d, %d, Copy = %v", counters(r), w, rd, r.Copy())
	}
}

// P7.1, R1: a ring that New did not make has no places, and nothing is ever written.
func TestRingOfNothing(t *testing.T) {
	r := &ring.Ring{}
	counted(t, "See", 0)(r.See())
	wrote(t, r, 0, nil, []int{})
	counted(t, "Claim", 0)(r.Claim(5))
	tells(t, "Put", r.Put(0, nil), api.ErrRange)
	tells(t, "Put", r.Put(0, []int{1}), api.ErrInvalid)
	tells(t, "Commit", r.Commit(0), api.OK)
	reads(t, r.Copy(), 5)
	counted(t, "Skip", 0)(r.Skip(5))
}

// P7.1, R1: every call ends, and none panics, whatever it is given.
func TestAllCallsEnd(t *testing.T) {
	numbers := []int{-1 << 63, -65536, -1, 0, 1, 2, 8, 1023, 1024, 1025, 65535, 65536, most + 1, 1 << 31, 1 << 62, 1<<63 - 1}
	for _, a := range numbers {
		for _, b := range numbers {
			ring.Filled(a, b)
			for _, c := range numbers {
				ring.Room(a, b, c)
				ring.New(a, b, c)
				ring.Play(a, b, c, [][]int{{a}, nil}, []api.Pass{{Who: a, Kind: b, N: c}})
				ring.Play(1, 1, 0, rising(0, 2), []api.Pass{{Who: a, Kind: b, N: c}})
			}
		}
		for _, b := range numbers {
			frames := [][]int{{b}, {a}}
			for _, r := range []*ring.Ring{begun(t, 1, 1, 65535), begun(t, 1024, 1, 0), begun(t, 8, 8, 1), {}, nil} {
				for range 3 {
					r.See()
					r.Claim(a)
					r.Put(b, frames[0])
					r.Put(a, nil)
					r.Commit(b)
					r.Look()
					r.Take(b)
					r.Get(a)
					r.Done(a)
					r.Read(b)
					r.Write(frames)
					r.Write(frames[:1])
					r.Commit(0)
					r.Skip(a)
					r.Done(0)
					r.Copy().Counters()
					r.Claimed()
				}
			}
		}
	}
}
