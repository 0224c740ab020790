package format

import "continuo/api"

// Meet returns the outcome of two choices, and whether they meet.
func Meet(a, b api.Choice) (api.Choice, bool, api.Errno) {
	if !ValidChoice(a) || !ValidChoice(b) {
		return api.Choice{}, false, api.ErrInvalid
	}
	c, ok := meet(a, b)
	return c, ok, api.OK
}

// meet is Meet of choices that are valid.
func meet(a, b api.Choice) (api.Choice, bool) {
	c := wayOf(a.Kind, b.Kind)(a, b)
	if len(c.List) == 0 {
		return api.Choice{}, false
	}
	c.Default = wish(numbersOf(c), a.Default, b.Default)
	return c, true
}

// wish returns the first one's default if it is among the numbers of an outcome, else the second one's, else the first number.
func wish(of numbers, first, second int) int {
	switch {
	case of.has(first):
		return first
	case of.has(second):
		return second
	}
	return of.at(0)
}

// way makes the outcome of two choices, but for its default. Its List is empty if they do not meet.
type way func(a, b api.Choice) api.Choice

// wayOf returns how choices of two kinds meet.
func wayOf(a, b int) way {
	ways := [4][4]way{ // COne, CEnum, CRange, CStep with each of these
		{firstList, firstList, firstList, firstList},
		{firstList, firstList, firstList, firstList},
		{secondList, secondList, toRange, toSteps},
		{secondList, secondList, toSteps, toSteps},
	}
	return ways[a-api.COne][b-api.COne]
}

// firstList keeps those of the first one's list that are numbers of the second one.
func firstList(a, b api.Choice) api.Choice {
	other := numbersOf(b)
	var out []int
	for _, n := range a.List {
		if other.has(n) {
			out = append(out, n)
		}
	}
	return listOf(out)
}

func secondList(a, b api.Choice) api.Choice {
	return firstList(b, a)
}

// listOf returns a choice of numbers one by one.
func listOf(list []int) api.Choice {
	switch len(list) {
	case 0:
		return api.Choice{}
	case 1:
		return api.Choice{Kind: api.COne, List: list}
	}
	return api.Choice{Kind: api.CEnum, List: list}
}

func toRange(a, b api.Choice) api.Choice {
	return manyOrFew(a, b, func(s stepped) api.Choice {
		return api.Choice{Kind: api.CRange, List: []int{s.least, s.most}}
	})
}

func toSteps(a, b api.Choice) api.Choice {
	return manyOrFew(a, b, func(s stepped) api.Choice {
		return api.Choice{Kind: api.CStep, List: []int{s.least, s.most, s.step}}
	})
}

// manyOrFew makes a choice of the numbers that two have: a list if they are few, or too far apart for a step.
func manyOrFew(a, b api.Choice, many func(s stepped) api.Choice) api.Choice {
	s, ok := common(steps(a.List), steps(b.List))
	if !ok {
		return api.Choice{}
	}
	if s.step > mostStep || s.count() <= mostListed {
		return listOf(firstOf(s, mostListed))
	}
	return many(s)
}

// common returns the numbers that two have, and whether there are any; its most is one of them.
func common(a, b stepped) (stepped, bool) {
	from := max(a.least, b.least)
	n := a.least + (from-a.least+a.step-1)/a.step*a.step
	for range b.step { // behind so many numbers of a their rests by b's step come again
		if a.has(n) && b.has(n) {
			most, step := min(a.most, b.most), leastMultiple(a.step, b.step)
			return stepped{n, most - (most-n)%step, step}, true
		}
		n += a.step
	}
	return stepped{}, false
}

// leastMultiple returns the least common multiple of two numbers above 0.
func leastMultiple(a, b int) int {
	x, y := a, b
	for y > 0 {
		x, y = y, x%y
	}
	return a / x * b
}
