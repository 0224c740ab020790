package ring

import (
	"continuo/api"
)

// side is the part that both sides have. A side holds what it has claimed or taken until that is over, also if it is nothing.
type side struct {
	counter, view uint16
	holds         bool
	held          int
}

// begin holds n frames, or as many as there are.
func (s *side) begin(n, there int) int {
	must(n >= 0, api.ErrRange)
	must(!s.holds, api.ErrState)
	s.holds, s.held = true, min(n, there)
	return s.held
}

// at is the counter of a frame of those that are held.
func (s *side) at(i int) uint16 {
	must(i >= 0, api.ErrRange)
	must(s.holds, api.ErrState)
	must(i < s.held, api.ErrRange)
	return s.counter + uint16(i)
}

// end goes on by n frames, and holds nothing more.
func (s *side) end(n int) {
	must(n >= 0, api.ErrRange)
	must(s.holds, api.ErrState)
	must(n <= s.held, api.ErrRange)
	s.counter += uint16(n)
	s.holds, s.held = false, 0
}

// writer sees how far the reader is.
type writer struct{ side }

func (w *writer) room(size int) int { return size - ahead(w.counter, w.view) }

// reader sees how far the writer is.
type reader struct{ side }

func (r *reader) filled() int { return ahead(r.view, r.counter) }
