package note

import (
	"continuo/api"
)

// Encode writes events as bytes, without their frames. With running status a status byte is left out wherever it may be.
func Encode(l []api.Note, running bool) (string, api.Errno) {
	return fitted(func() string {
		mustBeNotes(l)
		var out []byte
		before := byte(0)
		for _, n := range l {
			first := status(n)
			if !running || first != before {
				out = append(out, first)
			}
			out = append(out, body(n)...)
			before = runs(before, first)
		}
		must(len(out) <= api.MaxText, api.ErrLong)
		return string(out)
	})
}

// runs is the running status behind an event, by the one ahead of it and the event's status byte; 0 is none.
func runs(before, first byte) byte {
	switch {
	case first >= firstClock:
		return before
	case first == beginText:
		return 0
	}
	return first
}

// Decode reads bytes as events of the frame 0. Where bytes are wrong it returns the events before that place, too.
func Decode(bytes string) ([]api.Note, int, api.Errno) {
	var l []api.Note
	at, e := placed(func() {
		must(len(bytes) <= api.MaxText, api.ErrLong)
		var s scan
		for i := range len(bytes) {
			n, fits := s.take(bytes[i])
			mustAt(fits, i)
			if n.Kind != 0 {
				l = append(l, n)
			}
		}
		mustAt(s.pending() == 0, len(bytes))
		must(len(l) <= maxNotes, api.ErrLimit)
	})
	if e == api.ErrLimit {
		return nil, 0, e
	}
	return l, at, e
}
