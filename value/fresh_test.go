package value_test

import (
	"slices"
	"testing"

	"continuo/api"
	"continuo/value"
)

// copied returns a value that shares nothing, apart from the program's own copies; its slices have room to spare.
func copied(v api.Value) api.Value {
	v.Keys = append(make([]int, 0, len(v.Keys)+3), v.Keys...)
	kids := make([]api.Value, 0, len(v.Kids)+3)
	for _, kid := range v.Kids {
		kids = append(kids, copied(kid))
	}
	v.Kids = kids
	return v
}

// spoil writes over all memory of a value, its slices' room to spare too.
func spoil(v api.Value) {
	for i := range v.Keys[:cap(v.Keys)] {
		v.Keys[:cap(v.Keys)][i] = -99
	}
	kids := v.Kids[:cap(v.Kids)]
	for i := range kids {
		kid := kids[i]
		kids[i] = api.Value{Kind: -99}
		spoil(kid)
	}
}

// intact reports whether a value is as it was, and nothing has been written into its room to spare.
func intact(v, was api.Value) bool {
	for _, key := range v.Keys[len(v.Keys):cap(v.Keys)] {
		if key != 0 {
			return false
		}
	}
	for _, kid := range v.Kids[len(v.Kids):cap(v.Kids)] {
		if !isZero(kid) {
			return false
		}
	}
	return value.Same(v, was) && slices.EqualFunc(v.Kids, was.Kids, intact)
}

// calls returns all calls that return values made of those that are handed in.
func calls(path []int) map[string]func(v api.Value) []api.Value {
	one := func(v api.Value, _ api.Errno) []api.Value { return []api.Value{v} }
	to := copied(object(1, []int{1}, record(none())))
	return map[string]func(v api.Value) []api.Value{
		"Get":     func(v api.Value) []api.Value { return one(value.Get(v, path)) },
		"Set":     func(v api.Value) []api.Value { return one(value.Set(v, path, to)) },
		"Set to":  func(v api.Value) []api.Value { return one(value.Set(to, []int{1}, v)) },
		"Set all": func(v api.Value) []api.Value { return one(value.Set(to, nil, v)) },
		"Drop":    func(v api.Value) []api.Value { return one(value.Drop(v, path)) },
		"Merge":   func(v api.Value) []api.Value { return one(value.Merge(v, to)) },
		"Merge 2": func(v api.Value) []api.Value { return one(value.Merge(to, v)) },
		"Merge 3": func(v api.Value) []api.Value { return one(value.Merge(v, v)) },
		"At":      func(v api.Value) []api.Value { l, _ := value.At(v, 3); return l },
		"Cut":     func(v api.Value) []api.Value { return one(value.Cut(v, 2, 9)) },
		"others": func(v api.Value) []api.Value {
			value.Valid(v)
			value.Same(v, v)
			value.Encode(v)
			value.Size(v)
			value.Count(v)
			return nil
		},
	}
}

func TestArgumentsAndResultsAreApart(t *testing.T) {
	for _, was := range append(samples(), drawn(10, 60)...) {
		for _, path := range append(paths(was), []int{7}) {
			for name, call := range calls(path) {
				v := copied(was)
				out := call(v)
				if !intact(v, was) {
					t.Fatalf("%s at %v of %v changes it to %v", name, path, was, v)
				}
				for _, x := range out {
					spoil(x)
				}
				if !intact(v, was) {
					t.Fatalf("%s at %v of %v shares memory with it", name, path, was)
				}
			}
		}
	}
}

func TestPathIsKept(t *testing.T) {
	path := []int{5, 1, 42, 43}
	for range 2 {
		value.Get(house(), path[:2])
		value.Set(house(), path[:2], integer(1))
		value.Drop(house(), path[:2])
	}
	if !slices.Equal(path, []int{5, 1, 42, 43}) {
		t.Errorf("path is changed to %v", path)
	}
}

// A value whose parts share memory with each other makes results whose parts do not.
func TestResultsShareNothingWithin(t *testing.T) {
	kid := copied(record(object(2, []int{1}, none())))
	shared := []api.Value{
		sequence([]int{3, 3}, kid, kid),
		object(1, []int{3, 4}, kid, kid),
		record(kid, kid, kid, kid),
	}
	for _, v := range shared {
		for name, call := range calls([]int{3}) {
			checkApart(t, name, call(v))
		}
		for name, call := range calls(nil) {
			checkApart(t, name, call(v))
		}
		back, _ := value.Decode(encoded(t, v))
		checkApart(t, "Decode", []api.Value{back})
	}
}

// checkApart spoils the kids of results one by one, and looks at the others.
func checkApart(t *testing.T, name string, list []api.Value) {
	t.Helper()
	all := record(list...)
	if len(list) == 1 {
		all = list[0]
	}
	for i := range all.Kids {
		was := copied(all)
		spoil(all.Kids[i])
		for j := range all.Kids {
			if j != i && !value.Same(all.Kids[j], was.Kids[j]) {
				t.Errorf("%s: kids %d and %d share memory", name, i, j)
			}
		}
		all.Kids[i] = was.Kids[i]
	}
}

// The same calls give the same results, whatever was called in between.
func TestNothingIsKept(t *testing.T) {
	first := map[int]string{}
	for range 2 {
		for i, v := range samples() {
			s := encoded(t, v)
			if old, ok := first[i]; ok && old != s {
				t.Errorf("%v is written in two ways", v)
			}
			first[i] = s
			value.Read(s[:len(s)-1])
			value.Read("\xff")
		}
	}
}
