package format

import (
	"slices"

	"continuo/api"
)

const (
	mostListed = 20   // numbers of a list
	mostStep   = 1000 // the greatest step
)

// numbers are those that a choice is among, in its order.
type numbers interface {
	count() int
	at(i int) int
	has(n int) bool
}

// listed are numbers that are told one by one.
type listed []int

func (l listed) count() int     { return len(l) }
func (l listed) at(i int) int   { return l[i] }
func (l listed) has(n int) bool { return slices.Contains(l, n) }

// stepped are the least number plus multiples of a step, at most the most.
type stepped struct{ least, most, step int }

func (s stepped) count() int   { return (s.most-s.least)/s.step + 1 }
func (s stepped) at(i int) int { return s.least + i*s.step }

func (s stepped) has(n int) bool {
	return s.least <= n && n <= s.most && (n-s.least)%s.step == 0
}

// steps returns the numbers of the List of a CRange or a CStep.
func steps(list []int) stepped {
	s := stepped{list[0], list[1], 1}
	if len(list) > 2 {
		s.step = list[2]
	}
	return s
}

// numbersOf returns the numbers of a choice; there are none if its List is not as its kind has it.
func numbersOf(c api.Choice) numbers {
	switch {
	case c.Kind == api.COne && len(c.List) == 1:
		return listed(c.List)
	case c.Kind == api.CEnum && len(c.List) <= mostListed && allDifferent(c.List):
		return listed(c.List)
	case c.Kind == api.CRange && len(c.List) == 2:
		return steps(c.List)
	case c.Kind == api.CStep && len(c.List) == 3 && c.List[2] >= 1 && c.List[2] <= mostStep:
		return steps(c.List)
	}
	return listed(nil)
}

func allDifferent(list []int) bool {
	for i, n := range list {
		if slices.Contains(list[:i], n) {
			return false
		}
	}
	return true
}

// firstOf returns the first numbers, at most so many.
func firstOf(of numbers, most int) []int {
	var out []int
	for i := range min(most, of.count()) {
		out = append(out, of.at(i))
	}
	return out
}

// ValidChoice reports whether a choice is valid.
func ValidChoice(c api.Choice) bool {
	for _, n := range c.List {
		if n < 0 || n > api.MaxTime {
			return false
		}
	}
	return numbersOf(c).has(c.Default)
}

// Has reports whether a number is among a choice's.
func Has(c api.Choice, n int) (bool, api.Errno) {
	if !ValidChoice(c) {
		return false, api.ErrInvalid
	}
	return numbersOf(c).has(n), api.OK
}

// Numbers returns the first numbers of a choice, at most so many.
func Numbers(c api.Choice, most int) ([]int, api.Errno) {
	if !ValidChoice(c) {
		return nil, api.ErrInvalid
	}
	if most < 0 || most > 1000 {
		return nil, api.ErrRange
	}
	return firstOf(numbersOf(c), most), api.OK
}
