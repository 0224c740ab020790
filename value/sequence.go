package value

import "continuo/api"

// At returns the values of a sequence at a time.
func At(v api.Value, time int) ([]api.Value, api.Errno) {
	if !Valid(v) {
		return nil, api.ErrInvalid
	}
	if v.Kind != api.VSequence {
		return nil, api.ErrKind
	}
	var out []api.Value
	for i, key := range v.Keys {
		if key == time {
			out = append(out, clone(v.Kids[i]))
		}
	}
	return out, api.OK
}

// Cut returns the controls of a sequence from a time up to before another one, their times less from.
func Cut(v api.Value, from, to int) (api.Value, api.Errno) {
	if !Valid(v) {
		return api.Value{}, api.ErrInvalid
	}
	if v.Kind != api.VSequence {
		return api.Value{}, api.ErrKind
	}
	if from < 0 || from > to || to > api.MaxTime {
		return api.Value{}, api.ErrRange
	}
	out := api.Value{Kind: api.VSequence}
	for i, key := range v.Keys {
		if from <= key && key < to {
			out.Keys = append(out.Keys, key-from)
			out.Kids = append(out.Kids, clone(v.Kids[i]))
		}
	}
	return out, api.OK
}
