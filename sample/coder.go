package sample

import (
	"continuo/api"
)

// coder is an encoding: how wide its levels are, and how they stand in bytes.
type coder interface {
	bits() int
	put(to []byte, level int) // to the first bytes of to
	get(from string) int      // from the first bytes of from
}

// lesserFirst and greaterFirst are so many bytes of two's complement, raised is one byte that 128 is added to.
type (
	lesserFirst  int
	greaterFirst int
	raised       struct{}
)

// coderOf returns what an encoding's number stands for.
func coderOf(encoding int) coder {
	switch encoding {
	case api.E8:
		return lesserFirst(1)
	case api.EU8:
		return raised{}
	case api.E16L:
		return lesserFirst(2)
	case api.E16B:
		return greaterFirst(2)
	case api.E24L:
		return lesserFirst(3)
	case api.E24B:
		return greaterFirst(3)
	case api.E32L:
		return lesserFirst(4)
	case api.E32B:
		return greaterFirst(4)
	}
	panic(misfit{api.ErrRange})
}

func (l lesserFirst) bits() int { return 8 * int(l) }

func (l lesserFirst) put(to []byte, level int) {
	for i := range int(l) {
		to[i] = byte(level >> (8 * i))
	}
}

func (l lesserFirst) get(from string) int {
	n := 0
	for i := range int(l) {
		n |= int(from[i]) << (8 * i)
	}
	return signed(n, l.bits())
}

func (g greaterFirst) bits() int { return 8 * int(g) }

func (g greaterFirst) put(to []byte, level int) {
	for i := range int(g) {
		to[i] = byte(level >> (g.bits() - 8*(i+1)))
	}
}

func (g greaterFirst) get(from string) int {
	n := 0
	for i := range int(g) {
		n = n<<8 | int(from[i])
	}
	return signed(n, g.bits())
}

func (raised) bits() int { return 8 }

func (raised) put(to []byte, level int) { to[0] = byte(level + 128) }

func (raised) get(from string) int { return int(from[0]) - 128 }

// signed reads so many bits as two's complement.
func signed(n, bits int) int {
	if n >= 1<<(bits-1) {
		return n - 1<<bits
	}
	return n
}

// width is how many bytes a level takes.
func width(c coder) int { return c.bits() / 8 }
