package value_test

import (
	"strings"
	"testing"

	"continuo/api"
	"continuo/value"
)

func TestMerge(t *testing.T) {
	inner := func(keys ...int) api.Value {
		return object(8, keys, integers(keys...)...)
	}
	for _, x := range []struct {
		name       string
		a, b, want api.Value
	}{
		{"nothing", object(1, nil), object(1, nil), object(1, nil)},
		{"keys of either", object(1, []int{1, 5}, none(), text("a")), object(1, []int{3}, boolean(1)), object(1, []int{1, 3, 5}, none(), boolean(1), text("a"))},
		{"behind", object(1, []int{1}, none()), object(1, []int{2, 3}, none(), none()), object(1, []int{1, 2, 3}, none(), none(), none())},
		{"ahead", object(1, []int{4}, none()), object(1, []int{0, 3}, none(), none()), object(1, []int{0, 3, 4}, none(), none(), none())},
		{"first empty", object(1, nil), object(1, []int{2}, none()), object(1, []int{2}, none())},
		{"second empty", object(1, []int{2}, none()), object(1, nil), object(1, []int{2}, none())},
		{"of both the second's", object(1, []int{1, 2}, integer(1), integer(2)), object(1, []int{2, 3}, text("b"), none()), object(1, []int{1, 2, 3}, integer(1), text("b"), none())},
		{"lists are not merged", object(1, []int{1}, list(integer(1))), object(1, []int{1}, list(integer(2))), object(1, []int{1}, list(integer(2)))},
		{"objects within", object(1, []int{1}, inner(1, 3)), object(1, []int{1}, inner(2, 3)), object(1, []int{1}, inner(1, 2, 3))},
		{"objects of other types within", object(1, []int{1}, inner(1)), object(1, []int{1}, object(9, []int{2}, none())), object(1, []int{1}, object(9, []int{2}, none()))},
		{"an object and something else", object(1, []int{1}, inner(1)), object(1, []int{1}, none()), object(1, []int{1}, none())},
		{"something else and an object", object(1, []int{1}, none()), object(1, []int{1}, inner(1)), object(1, []int{1}, inner(1))},
		{"two levels", object(1, []int{1}, object(2, []int{1}, inner(1))), object(1, []int{1}, object(2, []int{1}, inner(2))), object(1, []int{1}, object(2, []int{1}, inner(1, 2)))},
	} {
		if v, e := value.Merge(x.a, x.b); !value.Same(v, x.want) || e != api.OK {
			t.Errorf("%s: %v, %d", x.name, v, e)
		}
	}
}

func TestMergeErrors(t *testing.T) {
	many := func(from int) api.Value {
		v := object(1, nil)
		for i := range 300 {
			v.Keys = append(v.Keys, from+i)
			v.Kids = append(v.Kids, none())
		}
		return v
	}
	wide := func(key int) api.Value { return object(1, []int{key}, blob(strings.Repeat("a", api.MaxText/2))) }
	for _, x := range []struct {
		name string
		a, b api.Value
		e    api.Errno
	}{
		{"no objects", none(), none(), api.ErrKind},
		{"sequences", sequence(nil), sequence(nil), api.ErrKind},
		{"one object", object(1, nil), record(), api.ErrKind},
		{"another object", integer(1), object(1, nil), api.ErrKind},
		{"other types", object(1, nil), object(2, nil), api.ErrKind},
		{"too many", many(0), many(300), api.ErrKind},
		{"as many", many(0), many(0), api.OK},
		{"too many bytes", wide(1), wide(2), api.ErrKind},
	} {
		if v, e := value.Merge(x.a, x.b); e != x.e || isZero(v) != (e != api.OK) {
			t.Errorf("%s: %d, not %d", x.name, e, x.e)
		}
	}
}

// drawnObjects returns objects in which a key holds an object of a type that follows from the key, or never one.
func drawnObjects(seed draws, count int) []api.Value {
	var out []api.Value
	for range count {
		out = append(out, seed.layered(3))
	}
	return out
}

func (d *draws) layered(levels int) api.Value {
	v := object(levels, nil)
	for key := range 6 {
		if d.below(2) == 0 {
			continue
		}
		kid := d.value(1)
		if key%2 == 0 && levels > 1 {
			kid = d.layered(levels - 1)
		}
		v.Keys = append(v.Keys, key)
		v.Kids = append(v.Kids, kid)
	}
	return v
}

func TestMergeIsAssociative(t *testing.T) {
	all := drawnObjects(7, 30)
	merge := func(a, b api.Value) api.Value {
		v, e := value.Merge(a, b)
		if e != api.OK {
			t.Fatalf("Merge(%v, %v) = %d", a, b, e)
		}
		return v
	}
	for _, a := range all {
		if !value.Same(merge(a, a), a) {
			t.Errorf("%v merged with itself is another one", a)
		}
		for _, b := range all {
			for _, c := range all[:8] {
				if !value.Same(merge(merge(a, b), c), merge(a, merge(b, c))) {
					t.Errorf("not associative: %v, %v, %v", a, b, c)
				}
			}
		}
	}
}

func TestMergeWithItself(t *testing.T) {
	for _, v := range append(samples(), drawn(8, 200)...) {
		if m, e := value.Merge(v, v); v.Kind == api.VObject && (!value.Same(m, v) || e != api.OK) {
			t.Errorf("%v merged with itself: %v, %d", v, m, e)
		}
	}
}
