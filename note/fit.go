package note

import (
	"continuo/api"
)

// misfit is what leaves by a panic where something does not fit: the error, and the place in bytes if they are wrong.
type misfit struct {
	e  api.Errno
	at int
}

// must panics with the error where something does not fit.
func must(fits bool, e api.Errno) {
	if !fits {
		panic(misfit{e: e})
	}
}

// mustAt panics with the place of a byte that does not fit.
func mustAt(fits bool, at int) {
	if !fits {
		panic(misfit{api.ErrData, at})
	}
}

// fitted returns what build returns, or the error with which build left; then out is still its zero value.
func fitted[T any](build func() T) (out T, e api.Errno) {
	_, e = placed(func() { out = build() })
	return out, e
}

// placed returns the place and the error with which what is to be done left.
func placed(do func()) (at int, e api.Errno) {
	defer func() {
		if x, ok := recover().(misfit); ok {
			at, e = x.at, x.e
		}
	}()
	do()
	return 0, api.OK
}
