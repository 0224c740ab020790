package pool

import (
	"iter"

	"continuo/api"
)

const maxMemory = 1000000

// deal is what was agreed, as buffers are laid by it.
type deal api.Deal

func (d deal) valid() bool {
	return within(d.Count, 1, maxBuffers) && shaped(d.Blocks, d.Size, d.Stride, d.Align) && within(d.Kind, 0, kindBits-1) &&
		d.Size%d.Stride == 0 && d.end(0) <= maxMemory
}

func mustBeDeal(d api.Deal) { must(deal(d).valid(), api.ErrInvalid) }

// laid gives the buffer and the offset of each block, laid from an offset on.
func (d deal) laid(at int) iter.Seq2[int, int] {
	return func(yield func(buffer, offset int) bool) {
		end := at
		for n := range d.Count * d.Blocks {
			offset := multiple(end, d.Align)
			if !yield(n/d.Blocks, offset) {
				return
			}
			end = offset + d.Size
		}
	}
}

// end is where the last block ends.
func (d deal) end(at int) int {
	last := at
	for _, offset := range d.laid(at) {
		last = offset + d.Size
	}
	return last
}

// multiple is the least multiple of a number that is not below n.
func multiple(n, of int) int { return (n + of - 1) / of * of }

// Lay returns the offsets of each buffer's blocks, and where the last one ends.
func Lay(d api.Deal, at int) (offsets [][]int, end int, e api.Errno) {
	e = done(func() {
		mustBeDeal(d)
		must(within(at, 0, api.MaxTime), api.ErrRange)
		offsets = make([][]int, d.Count)
		for buffer, offset := range deal(d).laid(at) {
			offsets[buffer] = append(offsets[buffer], offset)
		}
		end = deal(d).end(at)
	})
	return offsets, end, e
}
