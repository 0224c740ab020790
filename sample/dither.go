package sample

import (
	"slices"

	"continuo/api"
	"continuo/layout"
)

// numbers are the random numbers of a seed, by the last one.
type numbers struct{ last int }

func (r *numbers) next() int {
	r.last = (r.last*1103515245 + 12345) % (1 << 31)
	return r.last
}

// Dither makes levels with noise, and goes on from block to block.
type Dither struct {
	numbers
	coder  coder
	shape  bool
	errors []int // of each channel
}

// NewDither makes a state.
func NewDither(encoding, seed, channels int, shape bool) (*Dither, api.Errno) {
	return fitted(func() *Dither {
		c := coderOf(encoding)
		must(seed >= 1 && seed < 1<<31, api.ErrRange)
		must(isChannels(channels), api.ErrRange)
		must(c.bits() < sampleBits, api.ErrKind)
		return &Dither{numbers{seed}, c, shape, make([]int, channels)}
	})
}

// Encode writes a block with noise.
func (d *Dither) Encode(planar bool, b api.Block) (string, api.Errno) {
	return fitted(func() string {
		must(d != nil && layout.ValidBlock(b), api.ErrInvalid)
		must(len(b) == len(d.errors), api.ErrSize)
		return written(d.coder, planar, b, d.rounding())
	})
}

// rounding makes levels with noise, and with shaping keeps what each is beside its sample.
func (d *Dither) rounding() rounding {
	step := 1 << (sampleBits - d.coder.bits())
	return func(channel, sample int) int {
		wanted := sample - d.errors[channel]
		noise := d.next()%step - step/2
		level := levelOf(d.coder, wanted+noise)
		if d.shape {
			d.errors[channel] = bounded(sampleOf(d.coder, level)-wanted, step)
		}
		return level
	}
}

// Errors returns the channels' errors.
func (d *Dither) Errors() []int {
	if d == nil {
		return nil
	}
	return slices.Clone(d.errors)
}

// Copy returns a Dither of its own.
func (d *Dither) Copy() *Dither {
	if d == nil {
		return nil
	}
	return &Dither{d.numbers, d.coder, d.shape, slices.Clone(d.errors)}
}
