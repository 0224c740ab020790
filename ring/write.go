package ring

import (
	"continuo/api"
)

// See lets the writer see how far the reader is, and returns the room.
func (r *Ring) See() (int, api.Errno) {
	return fitted(func() int {
		must(r != nil, api.ErrInvalid)
		return r.see()
	})
}

func (r *Ring) see() int {
	r.writer.view = r.reader.counter
	return r.room()
}

// room is what the writer may claim.
func (r *Ring) room() int { return r.writer.room(r.size) }

// Claim begins to write at most n frames, and returns how many.
func (r *Ring) Claim(n int) (int, api.Errno) {
	return fitted(func() int {
		must(r != nil, api.ErrInvalid)
		return r.writer.begin(n, r.room())
	})
}

// Put writes a frame of the claim.
func (r *Ring) Put(i int, frame []int) api.Errno {
	return done(func() {
		must(r != nil, api.ErrInvalid)
		mustBeFrames(r.channels, frame)
		r.put(i, frame)
	})
}

func (r *Ring) put(i int, frame []int) { copy(r.place(r.writer.at(i)), frame) }

// Commit gives the reader the first n frames of the claim, and ends it.
func (r *Ring) Commit(n int) api.Errno {
	return done(func() {
		must(r != nil, api.ErrInvalid)
		r.writer.end(n)
	})
}

// Write writes as many frames as there is room for, and returns how many.
func (r *Ring) Write(frames [][]int) (int, api.Errno) {
	return fitted(func() int {
		must(r != nil, api.ErrInvalid)
		mustBeFrames(r.channels, frames...)
		must(!r.writer.holds, api.ErrState)
		n := r.writer.begin(len(frames), r.see())
		for i, frame := range frames[:n] {
			r.put(i, frame)
		}
		r.writer.end(n)
		return n
	})
}
