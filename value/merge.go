package value

import "continuo/api"

// Merge puts two objects of one type together.
func Merge(a, b api.Value) (api.Value, api.Errno) {
	if !Valid(a) || !Valid(b) {
		return api.Value{}, api.ErrInvalid
	}
	if !mergeable(a, b) {
		return api.Value{}, api.ErrKind
	}
	return checked(merged(a, b))
}

func mergeable(a, b api.Value) bool {
	return a.Kind == api.VObject && b.Kind == api.VObject && a.N == b.N
}

func merged(a, b api.Value) api.Value {
	out := api.Value{Kind: a.Kind, N: a.N}
	add := func(key int, kid api.Value) {
		out.Keys = append(out.Keys, key)
		out.Kids = append(out.Kids, kid)
	}
	i, j := 0, 0
	for i < len(a.Keys) || j < len(b.Keys) {
		switch {
		case j == len(b.Keys) || i < len(a.Keys) && a.Keys[i] < b.Keys[j]:
			add(a.Keys[i], clone(a.Kids[i]))
			i++
		case i == len(a.Keys) || b.Keys[j] < a.Keys[i]:
			add(b.Keys[j], clone(b.Kids[j]))
			j++
		default:
			add(a.Keys[i], mergedKid(a.Kids[i], b.Kids[j]))
			i++
			j++
		}
	}
	return out
}

func mergedKid(a, b api.Value) api.Value {
	if mergeable(a, b) {
		return merged(a, b)
	}
	return clone(b)
}
