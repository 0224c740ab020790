package pool

import (
	"maps"
	"slices"

	"continuo/api"
)

const maxHolder = 1000

// mustKnow asks for a pool, a buffer of it, and numbers that holders may have.
func (p *Pool) mustKnow(buffer int, holders ...int) {
	must(p != nil, api.ErrInvalid)
	must(within(buffer, 0, len(p.blocks)-1), api.ErrRange)
	mustBeHolders(holders...)
}

func mustBeHolders(holders ...int) {
	for _, holder := range holders {
		must(within(holder, 1, maxHolder), api.ErrRange)
	}
}

func (p *Pool) mustHold(holder, buffer int) { must(p.holders[buffer][holder], api.ErrState) }

// single reports whether no more than one holds a buffer.
func (p *Pool) single(buffer int) bool { return len(p.holders[buffer]) <= 1 }

// Borrow lets a holder have the next free buffer, and returns it.
func (p *Pool) Borrow(holder int) (int, api.Errno) {
	return fitted(func() int {
		must(p != nil, api.ErrInvalid)
		mustBeHolders(holder)
		return p.borrow(holder)
	})
}

func (p *Pool) borrow(holder int) int {
	must(len(p.free) > 0, api.ErrFull)
	buffer := p.free[0]
	p.free = p.free[1:]
	p.holders[buffer] = map[int]bool{holder: true}
	return buffer
}

// Share lets another one hold a buffer, too.
func (p *Pool) Share(holder, buffer, with int) api.Errno {
	return done(func() {
		p.mustKnow(buffer, holder, with)
		p.mustHold(holder, buffer)
		must(!p.holders[buffer][with], api.ErrDuplicate)
		p.holders[buffer][with] = true
	})
}

// Give gives a buffer back.
func (p *Pool) Give(holder, buffer int) api.Errno {
	return done(func() {
		p.mustKnow(buffer, holder)
		p.mustHold(holder, buffer)
		p.give(holder, buffer)
	})
}

// give makes a buffer free when the last one gives it back.
func (p *Pool) give(holder, buffer int) {
	if p.single(buffer) {
		delete(p.holders, buffer)
		p.free = append(p.free, buffer)
		return
	}
	delete(p.holders[buffer], holder)
}

// Own returns a buffer with the same bytes that nobody else holds.
func (p *Pool) Own(holder, buffer int) (int, api.Errno) {
	return fitted(func() int {
		p.mustKnow(buffer, holder)
		p.mustHold(holder, buffer)
		if p.single(buffer) {
			return buffer
		}
		own := p.borrow(holder)
		for i, block := range p.blocks[own] {
			copy(block, p.blocks[buffer][i])
		}
		p.copies++
		p.give(holder, buffer)
		return own
	})
}

// Leave gives all back that a holder holds, and returns how many.
func (p *Pool) Leave(holder int) (int, api.Errno) {
	return fitted(func() int {
		must(p != nil, api.ErrInvalid)
		mustBeHolders(holder)
		held := p.held(holder)
		for _, buffer := range held {
			p.give(holder, buffer)
		}
		return len(held)
	})
}

// Holders returns who holds a buffer, ascending.
func (p *Pool) Holders(buffer int) ([]int, api.Errno) {
	return fitted(func() []int {
		p.mustKnow(buffer)
		return slices.Sorted(maps.Keys(p.holders[buffer]))
	})
}

// Held returns what a holder holds, ascending.
func (p *Pool) Held(holder int) ([]int, api.Errno) {
	return fitted(func() []int {
		must(p != nil, api.ErrInvalid)
		mustBeHolders(holder)
		return p.held(holder)
	})
}

func (p *Pool) held(holder int) []int {
	var out []int
	for buffer := range p.blocks {
		if p.holders[buffer][holder] {
			out = append(out, buffer)
		}
	}
	return out
}

// Free returns the free buffers in the order in which they will be lent.
func (p *Pool) Free() []int {
	if p == nil {
		return nil
	}
	return slices.Clone(p.free)
}

// Copies is how often Own copied.
func (p *Pool) Copies() int {
	if p == nil {
		return 0
	}
	return p.copies
}
