package format

import (
	"iter"

	"continuo/api"
)

// mostFormats is how many formats a list has at most.
const mostFormats = 40

// pair is a field of two formats: each one's choice, and whether it has the field.
type pair struct {
	key      int
	a, b     api.Choice
	inA, inB bool
}

// fieldsOf gives the fields that either of two formats has, by ascending keys.
func fieldsOf(a, b api.Format) iter.Seq[pair] {
	return func(yield func(pair) bool) {
		for key := api.KEncoding; key <= api.KModifier; key++ {
			p := pair{key: key}
			p.a, p.inA = find(a, key)
			p.b, p.inB = find(b, key)
			if (p.inA || p.inB) && !yield(p) {
				return
			}
		}
	}
}

// Join returns the outcome of two formats.
func Join(a, b api.Format) (api.Format, api.Errno) {
	if !Valid(a) || !Valid(b) {
		return api.Format{}, api.ErrInvalid
	}
	return join(a, b)
}

// apart is what a join panics with where two formats do not meet.
type apart struct{ e api.Errno }

// join is Join of formats that are valid.
func join(a, b api.Format) (f api.Format, e api.Errno) {
	defer func() {
		if x, ok := recover().(apart); ok {
			f, e = api.Format{}, x.e
		}
	}()
	if a.Media != b.Media {
		panic(apart{api.ErrKind})
	}
	f.Media = a.Media
	for p := range fieldsOf(a, b) {
		f.Fields = append(f.Fields, api.Field{Key: p.key, Choice: p.joined()})
	}
	return f, api.OK
}

// joined returns the outcome of a field; what one format alone has is taken over.
func (p pair) joined() api.Choice {
	switch {
	case !p.inA:
		return clone(p.b)
	case !p.inB:
		return clone(p.a)
	}
	c, ok := meet(p.a, p.b)
	if !ok {
		panic(apart{api.ErrFormat})
	}
	return c
}

// Within reports whether a is within b: of one media, with each field of b, and there with numbers of b's alone.
func Within(a, b api.Format) (bool, api.Errno) {
	if !Valid(a) || !Valid(b) {
		return false, api.ErrInvalid
	}
	if a.Media != b.Media {
		return false, api.OK
	}
	for p := range fieldsOf(a, b) {
		if p.inB && !(p.inA && among(numbersOf(p.a), numbersOf(p.b))) {
			return false, api.OK
		}
	}
	return true, api.OK
}

// among reports whether all numbers of a are among b's. Where there are more than a list can have, both go by steps,
// so that the first ones and the last one tell all.
func among(a, b numbers) bool {
	n := a.count()
	if n > b.count() {
		return false
	}
	for i := range min(n, mostListed) {
		if !b.has(a.at(i)) {
			return false
		}
	}
	return b.has(a.at(n - 1))
}

// Filter returns the outcomes of each format of a list with f, in order, of those that meet.
func Filter(l []api.Format, f api.Format) ([]api.Format, api.Errno) {
	if !validList(l) || !Valid(f) {
		return nil, api.ErrInvalid
	}
	var out []api.Format
	for _, x := range l {
		if met, e := join(x, f); e == api.OK {
			out = append(out, met)
		}
	}
	return out, api.OK
}

// Agree returns the first pair of formats that meets, by its indexes, and its outcome, fixed.
func Agree(a, b []api.Format) (f api.Format, i, j int, e api.Errno) {
	if !validList(a) || !validList(b) {
		return api.Format{}, 0, 0, api.ErrInvalid
	}
	for i, x := range a {
		for j, y := range b {
			if met, e := join(x, y); e == api.OK {
				return fix(met), i, j, api.OK
			}
		}
	}
	return api.Format{}, 0, 0, api.ErrFormat
}

func validList(l []api.Format) bool {
	if len(l) > mostFormats {
		return false
	}
	for _, f := range l {
		if !Valid(f) {
			return false
		}
	}
	return true
}
