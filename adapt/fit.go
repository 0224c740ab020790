package adapt

import (
	"continuo/api"
)

// misfit is what leaves by a panic where something does not fit.
type misfit struct{ e api.Errno }

// must panics with the error where something does not fit.
func must(fits bool, e api.Errno) {
	if !fits {
		panic(misfit{e})
	}
}

// got returns what a lower layer gave, or leaves with its error.
func got[T any](out T, e api.Errno) T {
	must(e == api.OK, e)
	return out
}

// fitted returns what build returns, or the error with which build left; then out is still its zero value.
func fitted[T any](build func() T) (out T, e api.Errno) {
	defer func() {
		if x, ok := recover().(misfit); ok {
			e = x.e
		}
	}()
	return build(), api.OK
}

// done returns the error with which what is to be done left.
func done(do func()) api.Errno {
	_, e := fitted(func() struct{} {
		do()
		return struct{}{}
	})
	return e
}
