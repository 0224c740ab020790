package value

import (
	"slices"

	"continuo/api"
)

// Get returns what is at the end of a path.
func Get(v api.Value, path []int) (api.Value, api.Errno) {
	if !Valid(v) {
		return api.Value{}, api.ErrInvalid
	}
	at := find(&v, path)
	if at == nil {
		return api.Value{}, api.ErrNone
	}
	return clone(*at), api.OK
}

// Set puts a value at the end of a path.
func Set(v api.Value, path []int, to api.Value) (api.Value, api.Errno) {
	if !Valid(v) || !Valid(to) {
		return api.Value{}, api.ErrInvalid
	}
	if len(path) == 0 {
		return clone(to), api.OK
	}
	out := clone(v)
	holder, step := findHolder(&out, path)
	if holder == nil || !put(holder, step, clone(to)) {
		return api.Value{}, api.ErrNone
	}
	return checked(out)
}

// Drop takes out what is at the end of a path.
func Drop(v api.Value, path []int) (api.Value, api.Errno) {
	if !Valid(v) {
		return api.Value{}, api.ErrInvalid
	}
	if len(path) == 0 {
		return api.Value{}, api.ErrRange
	}
	out := clone(v)
	holder, step := findHolder(&out, path)
	if holder == nil || !takeOut(holder, step) {
		return api.Value{}, api.ErrNone
	}
	return checked(out)
}

// find returns what is at the end of a path, nil if a step is not there.
func find(v *api.Value, path []int) *api.Value {
	var walk func(at *api.Value, taken int) *api.Value
	walk = func(at *api.Value, taken int) *api.Value {
		if taken == len(path) {
			return at
		}
		place := placeOf(*at, path[taken])
		if place < 0 {
			return nil
		}
		return walk(&at.Kids[place], taken+1)
	}
	return walk(v, 0)
}

// findHolder returns what holds the last step of a path (nil if it is not there), and that step.
func findHolder(v *api.Value, path []int) (*api.Value, int) {
	last := len(path) - 1
	return find(v, path[:last]), path[last]
}

// placeOf returns the place of the kid to which a step leads, -1 if there is none.
func placeOf(v api.Value, step int) int {
	if has[v.Kind].keys {
		return slices.Index(v.Keys, step)
	}
	if step < 0 || step >= len(v.Kids) {
		return -1
	}
	return step
}

// put puts a kid into a holder; it reports false if the step is not there and can't be put in.
func put(holder *api.Value, step int, kid api.Value) bool {
	if place := placeOf(*holder, step); place >= 0 {
		holder.Kids[place] = kid
		return true
	}
	if holder.Kind != api.VObject {
		return false
	}
	place, _ := slices.BinarySearch(holder.Keys, step)
	holder.Keys = slices.Insert(holder.Keys, place, step)
	holder.Kids = slices.Insert(holder.Kids, place, kid)
	return true
}

// takeOut takes a kid out of a holder; it reports false if the step is not there.
func takeOut(holder *api.Value, step int) bool {
	place := placeOf(*holder, step)
	if place < 0 {
		return false
	}
	holder.Kids = slices.Delete(holder.Kids, place, place+1)
	if has[holder.Kind].keys {
		holder.Keys = slices.Delete(holder.Keys, place, place+1)
	}
	return true
}
