package format

import (
	"continuo/api"
	"continuo/value"
)

// Value returns a format as an object.
func Value(f api.Format) (api.Value, api.Errno) {
	if !Valid(f) {
		return api.Value{}, api.ErrInvalid
	}
	v := api.Value{Kind: api.VObject, N: f.Media}
	for _, field := range f.Fields {
		v.Keys = append(v.Keys, field.Key)
		v.Kids = append(v.Kids, choiceValue(field.Choice))
	}
	return v, api.OK
}

func choiceValue(c api.Choice) api.Value {
	v := api.Value{Kind: api.VChoice, N: c.Kind, Kids: []api.Value{number(c.Default)}}
	if c.Kind == api.COne {
		return v
	}
	for _, n := range c.List {
		v.Kids = append(v.Kids, number(n))
	}
	return v
}

func number(n int) api.Value {
	return api.Value{Kind: api.VInt, N: n}
}

// FromValue reads a format from an object.
func FromValue(v api.Value) (api.Format, api.Errno) {
	if !value.Valid(v) || !isObject(v) {
		return api.Format{}, api.ErrKind
	}
	f := api.Format{Media: v.N}
	for i, kid := range v.Kids {
		f.Fields = append(f.Fields, api.Field{Key: v.Keys[i], Choice: valueChoice(kid)})
	}
	if !Valid(f) {
		return api.Format{}, api.ErrInvalid
	}
	return f, api.OK
}

// isObject reports whether a valid value is an object with the type and the keys of a format, and choices alone.
func isObject(v api.Value) bool {
	if v.Kind != api.VObject || !isMedia(v.N) {
		return false
	}
	for i, kid := range v.Kids {
		if !isKey(v.Keys[i]) || kid.Kind != api.VChoice {
			return false
		}
	}
	return true
}

func valueChoice(v api.Value) api.Choice {
	wished := v.Kids[0].N
	if v.N == api.COne {
		return one(wished)
	}
	c := api.Choice{Kind: v.N, Default: wished}
	for _, kid := range v.Kids[1:] {
		c.List = append(c.List, kid.N)
	}
	return c
}
