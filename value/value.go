// Package value has structured values as bytes.
package value

import (
	"slices"

	"continuo/api"
)

// mostLevels is well beyond the nesting for which anything is promised, so that only a value that holds itself is deeper.
const mostLevels = 1 << 18

// Valid reports whether a value is valid.
func Valid(v api.Value) bool {
	_, _, ok := measure(v)
	return ok
}

// Same reports whether two values are equal; nil and empty lists are alike.
func Same(a, b api.Value) bool {
	return same(a, b, 1)
}

func same(a, b api.Value, level int) bool {
	if level > mostLevels || a.Kind != b.Kind || a.N != b.N || a.S != b.S {
		return false
	}
	if len(a.Kids) != len(b.Kids) || !slices.Equal(a.Keys, b.Keys) {
		return false
	}
	for i, kid := range a.Kids {
		if !same(kid, b.Kids[i], level+1) {
			return false
		}
	}
	return true
}

// Encode writes a value.
func Encode(v api.Value) (string, api.Errno) {
	if !Valid(v) {
		return "", api.ErrInvalid
	}
	w := &writer{bodies: bodyWriters()}
	w.value(v)
	return string(w.out), api.OK
}

// Decode reads a text that is one value.
func Decode(s string) (api.Value, api.Errno) {
	v, used, _, e := Read(s)
	switch {
	case e == api.ErrNone:
		return api.Value{}, api.ErrData
	case e != api.OK:
		return api.Value{}, e
	case used < len(s):
		return api.Value{}, api.ErrData
	}
	return v, api.OK
}

// Read reads a value at the beginning of a text; used is how many bytes it took, bad is -1, or where an error is told.
func Read(s string) (v api.Value, used, bad int, e api.Errno) {
	if len(s) > api.MaxText {
		return api.Value{}, 0, 0, api.ErrLong
	}
	defer func() {
		if at, ok := recover().(stop); ok {
			v, used, bad, e = api.Value{}, 0, at.bad, at.e
		}
	}()
	r := &reader{text: s}
	v = r.value(span{end: api.MaxText})
	return v, r.at, -1, api.OK
}

// Size returns how many bytes a value has as written.
func Size(v api.Value) (int, api.Errno) {
	_, size, ok := measure(v)
	if !ok {
		return 0, api.ErrInvalid
	}
	return size, api.OK
}

// Count returns how many values there are: v and all within.
func Count(v api.Value) (int, api.Errno) {
	count, _, ok := measure(v)
	if !ok {
		return 0, api.ErrInvalid
	}
	return count, api.OK
}

// clone returns a value that shares no memory with v.
func clone(v api.Value) api.Value {
	v.Keys = slices.Clone(v.Keys)
	v.Kids = slices.Clone(v.Kids)
	for i, kid := range v.Kids {
		v.Kids[i] = clone(kid)
	}
	return v
}

// checked returns a result that a call has put together, or ErrKind where it is not valid.
func checked(v api.Value) (api.Value, api.Errno) {
	if !Valid(v) {
		return api.Value{}, api.ErrKind
	}
	return v, api.OK
}
