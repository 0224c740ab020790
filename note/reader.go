package note

import (
	"continuo/api"
)

// Reader reads bytes in pieces, and goes on behind those that are wrong.
type Reader struct {
	scan    scan
	frame   int // the last one that was told
	skipped int
}

// NewReader returns a reader that has read nothing.
func NewReader() *Reader { return &Reader{} }

// Feed reads the next bytes; the events that end in them have the frame.
func (r *Reader) Feed(frame int, bytes string) ([]api.Note, api.Errno) {
	return fitted(func() []api.Note {
		must(r != nil, api.ErrInvalid)
		must(len(bytes) <= api.MaxText, api.ErrLong)
		must(isFrame(frame) && frame >= r.frame, api.ErrRange)
		r.frame = frame
		var out []api.Note
		for i := range len(bytes) {
			n, fits := r.scan.take(bytes[i])
			if !fits {
				r.skip(bytes[i])
			}
			if n.Kind != 0 {
				n.Frame = frame
				out = append(out, n)
			}
		}
		return out
	})
}

// skip leaves out a byte that is wrong, with what was begun of an event; an event that it begins is read all the same.
func (r *Reader) skip(b byte) {
	r.skipped += r.scan.pending()
	r.scan.drop()
	r.scan.status = 0
	if begins(b) {
		r.scan.begin(b)
		return
	}
	r.skipped++
}

// Pending is how many bytes have come of an event that is not whole.
func (r *Reader) Pending() int {
	if r == nil {
		return 0
	}
	return r.scan.pending()
}

// Skipped is how many bytes were left out so far.
func (r *Reader) Skipped() int {
	if r == nil {
		return 0
	}
	return r.skipped
}
