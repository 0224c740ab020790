package value

import (
	"iter"
	"math"
	"slices"
	"strings"

	"continuo/api"
)

// has tells which fields a value of each kind has.
var has = [...]struct{ n, s, keys, kids bool }{
	api.VNone:     {},
	api.VBool:     {n: true},
	api.VInt:      {n: true},
	api.VText:     {s: true},
	api.VBytes:    {s: true},
	api.VList:     {kids: true},
	api.VStruct:   {kids: true},
	api.VObject:   {n: true, keys: true, kids: true},
	api.VChoice:   {n: true, kids: true},
	api.VSequence: {keys: true, kids: true},
}

// within gives a value and all values in it, each ahead of its kids, with their levels.
func within(v api.Value) iter.Seq2[api.Value, int] {
	return func(yield func(api.Value, int) bool) {
		visit(v, 1, yield)
	}
}

func visit(v api.Value, level int, yield func(api.Value, int) bool) bool {
	if !yield(v, level) {
		return false
	}
	for _, kid := range v.Kids {
		if !visit(kid, level+1, yield) {
			return false
		}
	}
	return true
}

// measure returns how many values and bytes v has; ok is false if v is not valid.
// It stops at the first value that is too much, so that it ends for values that hold themselves.
func measure(v api.Value) (count, size int, ok bool) {
	for x, level := range within(v) {
		if level > api.MaxDeep || !sound(x) {
			return 0, 0, false
		}
		count++
		size += ownSize(x)
		if count+len(x.Kids) > api.MaxValues || size > api.MaxText {
			return 0, 0, false
		}
	}
	return count, size, true
}

// ownSize returns how many bytes a value has as written, without its kids.
func ownSize(v api.Value) int {
	switch v.Kind {
	case api.VBool, api.VInt, api.VChoice:
		return 16
	case api.VText, api.VBytes:
		return 8 + padded(len(v.S))
	case api.VObject:
		return 16 + 8*len(v.Keys)
	case api.VSequence:
		return 8 + 8*len(v.Keys)
	}
	return 8
}

// padded returns the next multiple of eight.
func padded(n int) int {
	return (n + 7) / 8 * 8
}

func kindThere(kind int) bool {
	return kind >= api.VNone && kind <= api.VSequence
}

// sound reports whether a value alone is as it should be; of its kids it asks kinds and numbers.
func sound(v api.Value) bool {
	if !kindThere(v.Kind) || hasMore(v) {
		return false
	}
	switch v.Kind {
	case api.VBool:
		return v.N == 0 || v.N == 1
	case api.VText:
		return strings.IndexByte(v.S, 0) < 0
	case api.VList:
		return listSound(v.Kids)
	case api.VObject:
		return objectSound(v)
	case api.VChoice:
		return choiceSound(v)
	case api.VSequence:
		return sequenceSound(v)
	}
	return true
}

// hasMore reports whether a value has something in a field that its kind does not have.
func hasMore(v api.Value) bool {
	own := has[v.Kind]
	return v.N != 0 && !own.n || v.S != "" && !own.s || len(v.Keys) > 0 && !own.keys || len(v.Kids) > 0 && !own.kids
}

func listSound(kids []api.Value) bool {
	for _, kid := range kids {
		switch kid.Kind {
		case api.VBool, api.VInt, api.VText:
		default:
			return false
		}
		if kid.Kind != kids[0].Kind {
			return false
		}
	}
	return true
}

func objectSound(v api.Value) bool {
	if !objectNumber(v.N) || len(v.Keys) != len(v.Kids) {
		return false
	}
	for i, key := range v.Keys {
		if !objectNumber(key) || i > 0 && key <= v.Keys[i-1] {
			return false
		}
	}
	return true
}

// objectNumber reports whether n can be a type or a key of an object.
func objectNumber(n int) bool {
	return n >= 0 && n <= math.MaxInt32
}

func sequenceSound(v api.Value) bool {
	if len(v.Keys) != len(v.Kids) {
		return false
	}
	for i, time := range v.Keys {
		if time < 0 || time > api.MaxTime || i > 0 && time < v.Keys[i-1] || v.Kids[i].Kind == api.VSequence {
			return false
		}
	}
	return true
}

func choiceSound(v api.Value) bool {
	var numbers []int
	for _, kid := range v.Kids {
		if kid.Kind != api.VInt {
			return false
		}
		numbers = append(numbers, kid.N)
	}
	if len(numbers) == 0 {
		return false
	}
	wished, list := numbers[0], numbers[1:]
	switch v.N {
	case api.COne:
		return len(list) == 0
	case api.CEnum:
		return slices.Contains(list, wished) && allDifferent(list)
	case api.CRange:
		return len(list) == 2 && inRange(wished, list)
	case api.CStep:
		return len(list) == 3 && list[2] > 0 && inRange(wished, list) && onStep(wished, list[0], list[2])
	}
	return false
}

func inRange(n int, bounds []int) bool {
	return bounds[0] <= n && n <= bounds[1]
}

// onStep reports whether n is least and a multiple of step; their distance may be beyond an int, but not beyond a uint64.
func onStep(n, least, step int) bool {
	return (uint64(n)-uint64(least))%uint64(step) == 0
}

func allDifferent(list []int) bool {
	sorted := slices.Clone(list)
	slices.Sort(sorted)
	return len(slices.Compact(sorted)) == len(list)
}
