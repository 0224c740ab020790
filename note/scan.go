package note

import (
	"continuo/api"
)

// state is what a scan awaits.
type state int

const (
	atStatus state = iota // or A of an event with the running status
	atA
	atB
	inText
)

// scan reads bytes one by one.
type scan struct {
	awaits state
	status byte   // of the event that was begun, or the running status; 0 if there is none
	led    bool   // whether the event that was begun has a status byte of its own
	body   []byte // what it has behind that
}

// take reads the next byte. It returns the event that ends with it, or one of no kind, and whether the byte fits;
// one that does not changes nothing.
func (s *scan) take(b byte) (n api.Note, fits bool) {
	switch {
	case b >= firstClock:
		return read(b, nil), true
	case s.awaits == inText && b == endText:
		n = s.whole()
		s.status = 0
		return n, true
	case s.awaits == atStatus && begins(b):
		s.begin(b)
		return n, true
	case b < firstStatus && s.hasRoom():
		return s.add(b), true
	}
	return n, false
}

func (s *scan) begin(b byte) {
	s.drop()
	s.status, s.led, s.awaits = b, true, atA
	if b == beginText {
		s.awaits = inText
	}
}

// drop leaves out what was begun of an event.
func (s *scan) drop() {
	s.awaits, s.led, s.body = atStatus, false, s.body[:0]
}

// hasRoom reports whether a byte below 80 may come.
func (s *scan) hasRoom() bool {
	switch s.awaits {
	case atStatus:
		return s.status != 0
	case inText:
		return len(s.body) < maxText
	}
	return true
}

func (s *scan) add(b byte) (n api.Note) {
	s.body = append(s.body, b)
	if s.awaits == inText {
		return n
	}
	if len(s.body) == kinds()[kindOf(s.status)].body {
		return s.whole()
	}
	s.awaits = atB
	return n
}

// whole returns the event that has ended; its status byte goes on as the running one.
func (s *scan) whole() api.Note {
	n := read(s.status, s.body)
	s.drop()
	return n
}

// pending is how many bytes have come of an event that is not whole.
func (s *scan) pending() int {
	if s.led {
		return 1 + len(s.body)
	}
	return len(s.body)
}
