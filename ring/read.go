package ring

import (
	"iter"
	"slices"

	"continuo/api"
)

// Look lets the reader see how far the writer is, and returns how many frames are filled.
func (r *Ring) Look() (int, api.Errno) {
	return fitted(func() int {
		must(r != nil, api.ErrInvalid)
		return r.look()
	})
}

func (r *Ring) look() int {
	r.reader.view = r.writer.counter
	return r.reader.filled()
}

// Take begins to read at most n frames, and returns how many.
func (r *Ring) Take(n int) (int, api.Errno) {
	return fitted(func() int {
		must(r != nil, api.ErrInvalid)
		return r.reader.begin(n, r.reader.filled())
	})
}

// Get returns a frame of what was taken.
func (r *Ring) Get(i int) ([]int, api.Errno) {
	return fitted(func() []int {
		must(r != nil, api.ErrInvalid)
		return r.get(i)
	})
}

func (r *Ring) get(i int) []int { return slices.Clone(r.place(r.reader.at(i))) }

// Done gives the writer the places of the first n frames, and ends the taking.
func (r *Ring) Done(n int) api.Errno {
	return done(func() {
		must(r != nil, api.ErrInvalid)
		r.reader.end(n)
	})
}

// Read returns the next frames, at most n, and is done with them.
func (r *Ring) Read(n int) ([][]int, api.Errno) {
	return fitted(func() [][]int {
		taken := r.takeNow(n)
		var out [][]int
		for frame := range r.taken() {
			out = append(out, frame)
		}
		r.reader.end(taken)
		return out
	})
}

// Skip is done with the next frames, at most n, and returns how many.
func (r *Ring) Skip(n int) (int, api.Errno) {
	return fitted(func() int {
		taken := r.takeNow(n)
		r.reader.end(taken)
		return taken
	})
}

// takeNow looks and takes. Errors come first, so that with one the view is still the old one.
func (r *Ring) takeNow(n int) int {
	must(r != nil, api.ErrInvalid)
	must(n >= 0, api.ErrRange)
	must(!r.reader.holds, api.ErrState)
	return r.reader.begin(n, r.look())
}

// taken gives the frames that were taken.
func (r *Ring) taken() iter.Seq[[]int] {
	return func(yield func([]int) bool) {
		for i := range r.reader.held {
			if !yield(r.get(i)) {
				return
			}
		}
	}
}
