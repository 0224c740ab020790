package note

import (
	"continuo/api"
)

// moreFollow is what a byte of a number has if it is not the last one.
const moreFollow = 0x80

// maxLength is how many bytes a number has at most.
const maxLength = 5

// Pack writes events with their frames: each with how many frames it is behind the one before.
func Pack(l []api.Note) (string, api.Errno) {
	return fitted(func() string {
		mustBeNotes(l)
		mustBeSorted(l)
		var out []byte
		frame := 0
		for _, n := range l {
			out = appendNumber(out, n.Frame-frame)
			out = append(out, status(n))
			out = append(out, body(n)...)
			frame = n.Frame
		}
		must(len(out) <= api.MaxText, api.ErrLong)
		return string(out)
	})
}

// appendNumber writes seven bits a byte, the greater ones first.
func appendNumber(out []byte, n int) []byte {
	var low [maxLength]byte
	first := maxLength - 1
	low[first] = byte(n & 0x7F)
	for n >>= 7; n > 0; n >>= 7 {
		first--
		low[first] = byte(n&0x7F) | moreFollow
	}
	return append(out, low[first:]...)
}

// Unpack reads just the bytes that Pack writes.
func Unpack(bytes string) (l []api.Note, at int, e api.Errno) {
	at, e = placed(func() {
		must(len(bytes) <= api.MaxText, api.ErrLong)
		p := packed{bytes: bytes}
		var out []api.Note
		for p.at < len(bytes) {
			n := p.note()
			out = append(out, n)
		}
		must(len(out) <= maxNotes, api.ErrLimit)
		l = out
	})
	return l, at, e
}

// packed reads bytes from the left; it leaves where one is wrong, and at their end where one lacks.
type packed struct {
	bytes     string
	at, frame int
}

func (p *packed) next() byte {
	mustAt(p.at < len(p.bytes), len(p.bytes))
	p.at++
	return p.bytes[p.at-1]
}

func (p *packed) note() api.Note {
	first := p.at
	p.frame += p.number()
	mustAt(p.frame <= api.MaxTime, first)
	n := p.event()
	n.Frame = p.frame
	return n
}

// number reads a number; it has no byte more than it needs.
func (p *packed) number() int {
	first, n := p.at, 0
	for range maxLength {
		b := p.next()
		mustAt(b != moreFollow || n > 0, first)
		n = n<<7 | int(b&0x7F)
		if b < moreFollow {
			return n
		}
	}
	mustAt(false, first)
	return 0
}

// event reads an event with a status byte of its own, and nothing in between.
func (p *packed) event() api.Note {
	var s scan
	first := p.at
	for {
		at := p.at
		n, fits := s.take(p.next())
		mustAt(fits, at)
		if n.Kind != 0 {
			// A clock in between is of another kind, and so is a silent On, which is read as an Off.
			mustAt(n.Kind == kindOf(p.bytes[first]), at)
			return n
		}
	}
}
