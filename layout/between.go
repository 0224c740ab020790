package layout

import (
	"slices"

	"continuo/api"
)

// The weights of lines, besides One.
const (
	half    = 32768 // a half of One
	root    = 46341 // One by the square root of 2
	quieter = 23170 // a half of root
)

// line is the positions to which another one spreads, each with that weight.
type line struct {
	weight int
	to     []int
}

// spread is how a position spreads: over returns the first line that a layout can serve. What is low spreads only with lfe told.
type spread struct {
	low  bool
	over func(to []int) line
}

// flank is the positions of one side.
type flank struct{ front, side, rear int }

// Between returns the matrix between two layouts.
func Between(from, to []int, lfe bool) ([][]int, api.Errno) {
	return fitted(func() [][]int {
		must(Valid(from) && Valid(to), api.ErrInvalid)
		m := zeros(len(to), len(from))
		table := spreads()
		for column, p := range from {
			l := served(table[p], p, to, lfe)
			for _, q := range l.to {
				m[slices.Index(to, q)][column] = l.weight
			}
		}
		return m
	})
}

// served returns the line by which a position goes to a layout; one without positions where nothing serves it.
func served(s spread, position int, to []int, lfe bool) line {
	if slices.Contains(to, position) {
		return each(api.One, position)
	}
	if s.low && !lfe {
		return line{}
	}
	return s.over(to)
}

// spreads returns how each position spreads.
func spreads() [api.PRC + 1]spread {
	left := flank{front: api.PFL, side: api.PSL, rear: api.PRL}
	right := flank{front: api.PFR, side: api.PSR, rear: api.PRR}
	front := byLines(each(half, api.PMono), each(half, api.PFC))
	return [...]spread{
		api.PMono: {over: byLines(each(api.One, api.PFC), each(api.One, api.PFL, api.PFR))},
		api.PFL:   {over: front},
		api.PFR:   {over: front},
		api.PFC:   {over: byLines(each(root, api.PFL, api.PFR), each(api.One, api.PMono))},
		api.PLFE: {low: true, over: byLines(
			each(half, api.PFC), each(quieter, api.PFL, api.PFR), each(half, api.PMono))},
		api.PRL: {over: behind(left.side, left.front)},
		api.PRR: {over: behind(right.side, right.front)},
		api.PSL: {over: behind(left.rear, left.front)},
		api.PSR: {over: behind(right.rear, right.front)},
		api.PRC: {over: byLines(
			each(root, api.PRL, api.PRR), each(root, api.PSL, api.PSR), each(half, api.PFL, api.PFR),
			each(half, api.PFC), each(half, api.PMono))},
	}
}

// behind returns the spread of a position at the side or at the rear; next is the other one of these, both on its side.
func behind(next, front int) func(to []int) line {
	return byLines(
		each(api.One, next), each(root, api.PRC), each(root, front),
		each(half, api.PFC), each(half, api.PMono))
}

func each(weight int, to ...int) line { return line{weight, to} }

// byLines returns the spread by the first line that a layout can serve.
func byLines(lines ...line) func(to []int) line {
	return func(to []int) line {
		for _, l := range lines {
			if serves(to, l) {
				return l
			}
		}
		return line{}
	}
}

// serves reports whether all positions of a line are there.
func serves(to []int, l line) bool {
	for _, p := range l.to {
		if !slices.Contains(to, p) {
			return false
		}
	}
	return true
}
