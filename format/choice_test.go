package format_test

import (
	"math"
	"slices"
	"testing"

	"continuo/api"
	"continuo/format"
)

// invalidChoices are almost right.
func invalidChoices() []api.Choice {
	const above = api.MaxTime + 1
	return []api.Choice{
		{}, {Default: 5, List: []int{5}}, {Kind: 5, Default: 5, List: []int{5}}, {Kind: -1, Default: 5, List: []int{5}},
		{Kind: api.COne}, {Kind: api.COne, Default: 5}, {Kind: api.COne, Default: 5, List: []int{4}},
		{Kind: api.COne, Default: 5, List: []int{5, 5}}, {Kind: api.COne, Default: 5, List: []int{5, 6}},
		one(-1), one(above), one(math.MinInt),
		enum(5), enum(5, 4), enum(5, 5, 5), enum(5, 5, 4, 6, 4), enum(1, upTo(21)...), enum(5, 5, -1), enum(5, 5, above), enum(-1, -1),
		{Kind: api.CRange, Default: 5}, {Kind: api.CRange, Default: 5, List: []int{5}}, {Kind: api.CRange, Default: 5, List: []int{1, 9, 1}},
		span(5, 6, 9), span(5, 1, 4), span(5, 9, 1), span(5, 6, 5), span(5, -1, 9), span(5, 1, above), span(0, math.MinInt, math.MaxInt),
		{Kind: api.CStep, Default: 5}, {Kind: api.CStep, Default: 5, List: []int{1, 9}}, {Kind: api.CStep, Default: 5, List: []int{1, 9, 2, 2}},
		step(5, 1, 9, 0), step(5, 1, 9, -2), step(0, 0, 5000, 1001), step(6, 1, 9, 2), step(10, 1, 10, 4), step(11, 1, 9, 2), step(-1, 1, 9, 2),
		step(5, 9, 1, 2), step(9, 9, 1, 2), step(1, -1, 9, 2), step(1, 1, above, 2), step(0, math.MinInt, math.MaxInt, math.MaxInt), step(0, 0, 9, math.MinInt),
	}
}

func TestValidChoice(t *testing.T) {
	for _, c := range validChoices() {
		if !format.ValidChoice(c) {
			t.Errorf("%v is not valid", c)
		}
	}
	for _, c := range invalidChoices() {
		if format.ValidChoice(c) {
			t.Errorf("%v is valid", c)
		}
	}
}

func TestHas(t *testing.T) {
	for _, c := range validChoices() {
		if c.Kind > api.CEnum && c.List[1] == api.MaxTime {
			continue
		}
		all := numbersOf(c)
		for n := -3; n < 320; n++ {
			if ok, e := format.Has(c, n); ok != slices.Contains(all, n) || e != api.OK {
				t.Errorf("Has(%v, %d) = %v, %d", c, n, ok, e)
			}
		}
	}
	for _, x := range []struct {
		c  api.Choice
		n  int
		ok bool
	}{
		{span(0, 0, api.MaxTime), api.MaxTime, true}, {span(0, 0, api.MaxTime), api.MaxTime + 1, false},
		{span(0, 0, api.MaxTime), math.MinInt, false}, {span(5, 5, 9), math.MaxInt, false},
		{step(5, 5, 9, 2), math.MinInt, false}, {step(5, 5, 9, 2), 3, false}, {step(5, 5, 9, 2), 11, false},
		{step(0, 0, api.MaxTime, 1000), api.MaxTime - 1000, true}, {step(0, 0, api.MaxTime, 1000), api.MaxTime - 1, false},
		{step(1, 1, 10, 4), 10, false}, {enum(3, 1, 3), 2, false},
	} {
		if ok, e := format.Has(x.c, x.n); ok != x.ok || e != api.OK {
			t.Errorf("Has(%v, %d) = %v, %d", x.c, x.n, ok, e)
		}
	}
}

func TestNumbers(t *testing.T) {
	for _, x := range []struct {
		c    api.Choice
		most int
		want []int
	}{
		{one(5), 0, nil}, {one(5), 1, []int{5}}, {one(5), 1000, []int{5}},
		{enum(3, 7, 3, 5), 2, []int{7, 3}}, {enum(3, 7, 3, 5), 3, []int{7, 3, 5}}, {enum(3, 7, 3, 5), 9, []int{7, 3, 5}},
		{span(8, 3, 9), 3, []int{3, 4, 5}}, {span(8, 7, 9), 3, []int{7, 8, 9}}, {span(8, 7, 9), 1000, []int{7, 8, 9}},
		{span(0, 0, api.MaxTime), 2, []int{0, 1}}, {span(1, 1, 2000), 1000, upTo(1000)},
		{step(9, 1, 10, 4), 2, []int{1, 5}}, {step(9, 1, 10, 4), 100, []int{1, 5, 9}}, {step(9, 1, 12, 4), 100, []int{1, 5, 9}},
		{step(0, 0, api.MaxTime, 1000), 3, []int{0, 1000, 2000}}, {step(1, 1, 10, 4), 0, nil},
	} {
		if l, e := format.Numbers(x.c, x.most); !slices.Equal(l, x.want) || e != api.OK {
			t.Errorf("Numbers(%v, %d) = %v, %d", x.c, x.most, l, e)
		}
	}
}

func TestChoiceErrors(t *testing.T) {
	for _, most := range []int{-1, 1001, math.MinInt, math.MaxInt} {
		if l, e := format.Numbers(one(5), most); len(l) != 0 || e != api.ErrRange {
			t.Errorf("Numbers at most %d = %v, %d", most, l, e)
		}
	}
	for _, c := range invalidChoices() {
		for _, most := range []int{0, 5, -1, 1001} {
			if l, e := format.Numbers(c, most); len(l) != 0 || e != api.ErrInvalid {
				t.Errorf("Numbers(%v, %d) = %v, %d", c, most, l, e)
			}
		}
		if ok, e := format.Has(c, c.Default); ok || e != api.ErrInvalid {
			t.Errorf("Has(%v) = %v, %d", c, ok, e)
		}
		for _, other := range []api.Choice{one(5), span(5, 0, 9), c} {
			if m, ok, e := format.Meet(c, other); !isZeroChoice(m) || ok || e != api.ErrInvalid {
				t.Errorf("Meet(%v, %v) = %v, %v, %d", c, other, m, ok, e)
			}
			if m, ok, e := format.Meet(other, c); !isZeroChoice(m) || ok || e != api.ErrInvalid {
				t.Errorf("Meet(%v, %v) = %v, %v, %d", other, c, m, ok, e)
			}
		}
	}
}
