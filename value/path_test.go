package value_test

import (
	"slices"
	"strings"
	"testing"

	"continuo/api"
	"continuo/value"
)

// house is a value with all kinds of steps.
func house() api.Value {
	return object(3, []int{2, 5, 9, 12},
		integer(20),
		list(integer(1), integer(2)),
		sequence([]int{4, 4, 6}, text("first"), text("second"), record(none())),
		choice(api.CEnum, 7, 7, 8))
}

func TestGet(t *testing.T) {
	for _, x := range []struct {
		path []int
		v    api.Value
		e    api.Errno
	}{
		{nil, house(), api.OK},
		{[]int{2}, integer(20), api.OK},
		{[]int{5}, list(integer(1), integer(2)), api.OK},
		{[]int{5, 0}, integer(1), api.OK},
		{[]int{5, 1}, integer(2), api.OK},
		{[]int{9, 4}, text("first"), api.OK},
		{[]int{9, 6, 0}, none(), api.OK},
		{[]int{12, 0}, integer(7), api.OK},
		{[]int{12, 2}, integer(8), api.OK},
		{[]int{0}, api.Value{}, api.ErrNone},
		{[]int{3}, api.Value{}, api.ErrNone},
		{[]int{-1}, api.Value{}, api.ErrNone},
		{[]int{5, 2}, api.Value{}, api.ErrNone},
		{[]int{5, -1}, api.Value{}, api.ErrNone},
		{[]int{9, 0}, api.Value{}, api.ErrNone},
		{[]int{9, 5}, api.Value{}, api.ErrNone},
		{[]int{12, 3}, api.Value{}, api.ErrNone},
		{[]int{2, 0}, api.Value{}, api.ErrNone},
		{[]int{9, 4, 0}, api.Value{}, api.ErrNone},
		{[]int{9, 6, 0, 0}, api.Value{}, api.ErrNone},
		{make([]int, 1000), api.Value{}, api.ErrNone},
	} {
		if v, e := value.Get(house(), x.path); !value.Same(v, x.v) || e != x.e {
			t.Errorf("Get at %v = %v, %d", x.path, v, e)
		}
	}
	for _, v := range []api.Value{none(), boolean(1), integer(1), text("a"), blob("a"), list(), record(), object(1, nil), sequence(nil)} {
		if _, e := value.Get(v, []int{0}); e != api.ErrNone {
			t.Errorf("Get of a kid of %v = %d", v, e)
		}
	}
}

func TestSet(t *testing.T) {
	one := object(3, []int{4}, none())
	for _, x := range []struct {
		name string
		v    api.Value
		path []int
		to   api.Value
		want api.Value
	}{
		{"empty path", house(), nil, text("a"), text("a")},
		{"key that is there", one, []int{4}, integer(1), object(3, []int{4}, integer(1))},
		{"key ahead", one, []int{3}, integer(1), object(3, []int{3, 4}, integer(1), none())},
		{"key behind", one, []int{1<<31 - 1}, integer(1), object(3, []int{4, 1<<31 - 1}, none(), integer(1))},
		{"key between", object(3, []int{1, 9}, none(), none()), []int{5}, text("b"), object(3, []int{1, 5, 9}, none(), text("b"), none())},
		{"first key", object(3, nil), []int{0}, none(), object(3, []int{0}, none())},
		{"key within", record(one), []int{0, 6}, none(), record(object(3, []int{4, 6}, none(), none()))},
		{"place of a list", list(integer(1), integer(2)), []int{1}, integer(9), list(integer(1), integer(9))},
		{"place of a struct", record(none(), none()), []int{0}, list(), record(list(), none())},
		{"first of equal times", sequence([]int{1, 4, 4}, none(), none(), none()), []int{4}, text("c"), sequence([]int{1, 4, 4}, none(), text("c"), none())},
		{"default", choice(api.CEnum, 7, 7, 8), []int{0}, integer(8), choice(api.CEnum, 8, 7, 8)},
		{"alternative", choice(api.CEnum, 7, 7, 8), []int{2}, integer(5), choice(api.CEnum, 7, 7, 5)},
	} {
		v, e := value.Set(x.v, x.path, x.to)
		if !value.Same(v, x.want) || e != api.OK {
			t.Errorf("%s: %v, %d", x.name, v, e)
		}
	}
}

func TestSetErrors(t *testing.T) {
	full := record(make500(none())[1:]...)
	for _, x := range []struct {
		name string
		v    api.Value
		path []int
		to   api.Value
		e    api.Errno
	}{
		{"key on the way", object(3, nil), []int{4, 4}, none(), api.ErrNone},
		{"time that is not there", sequence([]int{4}, none()), []int{5}, none(), api.ErrNone},
		{"place behind a list", list(integer(1)), []int{1}, integer(1), api.ErrNone},
		{"place below a list", list(integer(1)), []int{-1}, integer(1), api.ErrNone},
		{"place behind a choice", choice(api.CEnum, 1, 1), []int{2}, integer(2), api.ErrNone},
		{"kid of a number", integer(1), []int{0}, integer(1), api.ErrNone},
		{"kid of a text on the way", record(text("a")), []int{0, 0, 0}, none(), api.ErrNone},
		{"key below", object(3, nil), []int{-1}, none(), api.ErrKind},
		{"key above", object(3, nil), []int{1 << 31}, none(), api.ErrKind},
		{"text among numbers", list(integer(1), integer(2)), []int{0}, text("a"), api.ErrKind},
		{"none in a list", list(integer(1)), []int{0}, none(), api.ErrKind},
		{"sequence in a sequence", sequence([]int{4}, none()), []int{4}, sequence(nil), api.ErrKind},
		{"default that no choice has", choice(api.CRange, 5, 1, 9), []int{0}, integer(10), api.ErrKind},
		{"text in a choice", choice(api.COne, 5), []int{0}, text("a"), api.ErrKind},
		{"too deep", nested(10), make([]int, 9), nested(2), api.ErrKind},
		{"too many", full, []int{3}, list(boolean(1)), api.ErrKind},
		{"too many bytes", record(none()), []int{0}, blob(strings.Repeat("a", api.MaxText-8)), api.ErrKind},
	} {
		if v, e := value.Set(x.v, x.path, x.to); !isZero(v) || e != x.e {
			t.Errorf("%s: %v, %d, not %d", x.name, v, e, x.e)
		}
	}
}

func TestDrop(t *testing.T) {
	for _, x := range []struct {
		name string
		v    api.Value
		path []int
		want api.Value
		e    api.Errno
	}{
		{"key", object(3, []int{1, 4}, none(), integer(1)), []int{1}, object(3, []int{4}, integer(1)), api.OK},
		{"last key", object(3, []int{1}, none()), []int{1}, object(3, nil), api.OK},
		{"first of equal times", sequence([]int{4, 4}, none(), integer(1)), []int{4}, sequence([]int{4}, integer(1)), api.OK},
		{"place of a list", list(integer(1), integer(2), integer(3)), []int{1}, list(integer(1), integer(3)), api.OK},
		{"place of a struct", record(list(), none()), []int{1}, record(list()), api.OK},
		{"alternative", choice(api.CEnum, 7, 7, 8), []int{2}, choice(api.CEnum, 7, 7), api.OK},
		{"within", record(none(), object(3, []int{4}, none())), []int{1, 4}, record(none(), object(3, nil)), api.OK},
		{"empty path", house(), nil, api.Value{}, api.ErrRange},
		{"key that is not there", object(3, []int{1}, none()), []int{2}, api.Value{}, api.ErrNone},
		{"time that is not there", sequence([]int{4}, none()), []int{0}, api.Value{}, api.ErrNone},
		{"place behind", list(integer(1)), []int{1}, api.Value{}, api.ErrNone},
		{"place below", record(none()), []int{-1}, api.Value{}, api.ErrNone},
		{"kid of a number", integer(1), []int{0}, api.Value{}, api.ErrNone},
		{"step on the way", record(none()), []int{1, 0}, api.Value{}, api.ErrNone},
		{"default", choice(api.CEnum, 7, 7, 8), []int{0}, api.Value{}, api.ErrKind},
		{"the default's alternative", choice(api.CEnum, 7, 7, 8), []int{1}, api.Value{}, api.ErrKind},
		{"most of a range", choice(api.CRange, 5, 1, 9), []int{2}, api.Value{}, api.ErrKind},
		{"number of one", choice(api.COne, 5), []int{0}, api.Value{}, api.ErrKind},
	} {
		if v, e := value.Drop(x.v, x.path); !value.Same(v, x.want) || e != x.e {
			t.Errorf("%s: %v, %d, not %d", x.name, v, e, x.e)
		}
	}
}

// paths returns the paths to a value and all within; of equal times the first.
func paths(v api.Value) [][]int {
	out := [][]int{nil}
	for i, kid := range v.Kids {
		step := i
		if len(v.Keys) > 0 {
			step = v.Keys[i]
			if i > 0 && v.Keys[i-1] == step {
				continue
			}
		}
		for _, p := range paths(kid) {
			out = append(out, append([]int{step}, p...))
		}
	}
	return out
}

func TestGetBehindSet(t *testing.T) {
	for _, v := range append(samples(), drawn(5, 100)...) {
		for _, path := range paths(v) {
			for _, to := range []api.Value{integer(7), text("set"), object(1, []int{1}, none())} {
				checkSet(t, v, path, to)
			}
		}
	}
}

func checkSet(t *testing.T, v api.Value, path []int, to api.Value) {
	t.Helper()
	set, e := value.Set(v, path, to)
	if e == api.ErrKind {
		return
	}
	if e != api.OK {
		t.Errorf("Set at %v of %v = %d", path, v, e)
		return
	}
	if got, e := value.Get(set, path); !value.Same(got, to) || e != api.OK {
		t.Errorf("at %v of %v: set %v, got %v, %d", path, v, to, got, e)
	}
	old, _ := value.Get(v, path)
	if back, e := value.Set(set, path, old); !value.Same(back, v) || e != api.OK {
		t.Errorf("at %v of %v: set back it is %v, %d", path, v, back, e)
	}
}

func TestDropOfPutIn(t *testing.T) {
	for _, v := range append(samples(), drawn(6, 300)...) {
		for _, path := range paths(v) {
			holder, _ := value.Get(v, path)
			for key := range 10 {
				if holder.Kind != api.VObject || slices.Contains(holder.Keys, key) {
					continue
				}
				in := append(slices.Clone(path), key)
				set, e := value.Set(v, in, none())
				if e == api.ErrKind {
					continue
				}
				if back, f := value.Drop(set, in); e != api.OK || f != api.OK || !value.Same(back, v) {
					t.Errorf("%v: put in at %v (%d) and dropped (%d) it is %v", v, in, e, f, back)
				}
			}
		}
	}
}
