package format_test

import (
	"math"
	"slices"
	"testing"

	"continuo/api"
	"continuo/format"
)

// roomy returns a list that shares nothing with l, and has room to spare.
func roomy[T any](l []T) []T {
	return append(make([]T, 0, len(l)+3), l...)
}

func roomyChoice(c api.Choice) api.Choice {
	c.List = roomy(c.List)
	return c
}

func roomyFormat(f api.Format) api.Format {
	f.Fields = roomy(f.Fields)
	for i, field := range f.Fields {
		f.Fields[i].Choice = roomyChoice(field.Choice)
	}
	return f
}

func roomyValue(v api.Value) api.Value {
	v.Keys, v.Kids = roomy(v.Keys), roomy(v.Kids)
	for i, kid := range v.Kids {
		v.Kids[i] = roomyValue(kid)
	}
	return v
}

// spoil writes over a list, its room to spare too.
func spoil(list []int) {
	all := list[:cap(list)]
	for i := range all {
		all[i] = -99
	}
}

func spoilFormat(f api.Format) {
	all := f.Fields[:cap(f.Fields)]
	for i := range all {
		spoil(all[i].Choice.List)
		all[i].Key = -99
	}
}

func spoilValue(v api.Value) {
	spoil(v.Keys)
	all := v.Kids[:cap(v.Kids)]
	for i := range all {
		spoilValue(all[i])
		all[i].Kind = -99
	}
}

// intact reports whether a list is as it was, and nothing has been written into its room to spare.
func intact(list, was []int) bool {
	return slices.Equal(list, was) && !slices.ContainsFunc(list[len(list):cap(list)], func(n int) bool { return n != 0 })
}

func intactFormat(f, was api.Format) bool {
	for _, field := range f.Fields[len(f.Fields):cap(f.Fields)] {
		if field.Key != 0 || !isZeroChoice(field.Choice) {
			return false
		}
	}
	for i, field := range f.Fields {
		if !intact(field.Choice.List, was.Fields[i].Choice.List) {
			return false
		}
	}
	return format.Same(f, was)
}

// makers are all calls that make formats of two.
func makers() map[string]func(a, b api.Format) []api.Format {
	one := func(f api.Format, _ api.Errno) []api.Format { return []api.Format{f} }
	return map[string]func(a, b api.Format) []api.Format{
		"Join": func(a, b api.Format) []api.Format { return one(format.Join(a, b)) },
		"Fix":  func(a, b api.Format) []api.Format { return append(one(format.Fix(a)), one(format.Fix(b))...) },
		"Agree": func(a, b api.Format) []api.Format {
			f, _, _, e := format.Agree([]api.Format{a}, []api.Format{b})
			return one(f, e)
		},
		"Filter": func(a, b api.Format) []api.Format {
			out, _ := format.Filter([]api.Format{a, b, a}, b)
			return out
		},
		"Field": func(a, b api.Format) []api.Format {
			x, _ := format.Field(a, api.KRate)
			y, _ := format.Field(b, api.KRate)
			return []api.Format{audio(x), audio(y)}
		},
		"Value": func(a, b api.Format) []api.Format {
			v, _ := format.Value(a)
			return one(format.FromValue(v))
		},
		"others": func(a, b api.Format) []api.Format {
			format.Valid(a)
			format.Same(a, b)
			format.Fixed(a)
			format.Within(a, b)
			format.Text(a)
			return nil
		},
	}
}

func TestFormatsAndResultsAreApart(t *testing.T) {
	var d draws = 7
	list := []api.Format{full(), audio(enum(5, 3, 5)), audio(span(5, 1, 90)), audio(step(5, 1, 90, 2)), fields(api.MAudio), fields(api.MVideo, channels(enum(9, 5, 9)))}
	for range 20 {
		list = append(list, d.format())
	}
	for name, call := range makers() {
		for _, first := range list {
			for _, second := range list {
				a, b := roomyFormat(first), roomyFormat(second)
				out := call(a, b)
				if !intactFormat(a, first) || !intactFormat(b, second) {
					t.Fatalf("%s of %v and %v changes them to %v, %v", name, first, second, a, b)
				}
				checkApart(t, name, out)
				if !intactFormat(a, first) || !intactFormat(b, second) {
					t.Fatalf("%s of %v and %v shares memory with them", name, first, second)
				}
			}
		}
	}
}

// checkApart spoils results field by field, and looks at those that are not spoiled yet.
func checkApart(t *testing.T, name string, out []api.Format) {
	t.Helper()
	was := roomy(out)
	for i, f := range out {
		was[i] = roomyFormat(f)
	}
	for i, f := range out {
		for j, field := range f.Fields {
			if !slices.Equal(field.Choice.List, was[i].Fields[j].Choice.List) || field.Key != was[i].Fields[j].Key {
				t.Fatalf("%s: field %d of result %d shares memory with another one", name, j, i)
			}
			spoil(field.Choice.List)
		}
		spoilFormat(f)
	}
}

func TestChoicesAndResultsAreApart(t *testing.T) {
	for _, first := range validChoices() {
		for _, second := range validChoices() {
			a, b := roomyChoice(first), roomyChoice(second)
			format.ValidChoice(a)
			format.Has(a, 5)
			l, _ := format.Numbers(a, 7)
			c, _, _ := format.Meet(a, b)
			was := slices.Clone(c.List)
			spoil(l)
			if !slices.Equal(c.List, was) {
				t.Fatalf("results of %v and %v share memory", first, second)
			}
			spoil(c.List)
			if !intact(a.List, first.List) || !intact(b.List, second.List) {
				t.Fatalf("%v and %v are changed to %v, %v", first, second, a, b)
			}
		}
	}
}

func TestValuesAndFormatsAreApart(t *testing.T) {
	for _, f := range validFormats() {
		v, _ := format.Value(f)
		v = roomyValue(v)
		g, _ := format.FromValue(v)
		spoilValue(v)
		if !format.Same(f, g) {
			t.Errorf("%v shares memory with its value", f)
		}
		v, _ = format.Value(f)
		spoilFormat(g)
		if back, e := format.FromValue(v); !format.Same(back, f) || e != api.OK {
			t.Errorf("the value of %v shares memory with another one", f)
		}
	}
}

// P2.1: all calls end with all arguments, and none panics.
func TestAllCallsEnd(t *testing.T) {
	ends := []int{math.MinInt, -1, 0, 1, 2, 5, 1000, api.MaxTime, math.MaxInt}
	var choices []api.Choice
	for kind := range 6 {
		for _, x := range ends {
			for _, y := range ends {
				for _, list := range [][]int{nil, {x}, {x, y}, {x, y, x}, {x, y, y}, {y, x, y, x}} {
					choices = append(choices, api.Choice{Kind: kind, Default: x, List: list})
				}
			}
		}
	}
	valid := 0
	for i, c := range choices {
		other := choices[(i*7+3)%len(choices)]
		f, g := audio(c), fields(c.Default, rate(other), channels(c))
		if format.ValidChoice(c) {
			valid++
		}
		for _, n := range ends {
			format.Has(c, n)
			format.Numbers(c, n)
			format.Field(g, n)
		}
		format.Meet(c, other)
		format.Meet(c, c)
		format.Filter([]api.Format{f, g}, f)
		format.Agree([]api.Format{g, f}, []api.Format{f})
		for _, call := range makers() {
			call(f, g)
		}
		format.FromValue(object(c.Default, c.List, choiceOf(c.Kind, c.List...), choiceOf(c.Kind, c.List...)))
	}
	if valid < 20 {
		t.Errorf("only %d choices were valid", valid)
	}
}
