package resample

import (
	"continuo/api"
)

// mostTimes is how many times another one a rate may be.
const mostTimes = 160

func mustRates(in, out int) {
	for _, rate := range [...]int{in, out} {
		must(rate >= 1 && rate <= api.MaxRate, api.ErrRange)
	}
}

func mustBeNear(in, out int) { must(max(in, out) <= mostTimes*min(in, out), api.ErrKind) }

// Frames returns how many frames Whole makes of n frames.
func Frames(in, out, n int) (int, api.Errno) {
	return fitted(func() int {
		mustRates(in, out)
		must(n >= 0 && n <= api.MaxTime, api.ErrRange)
		mustBeNear(in, out)
		return (n*out + in - 1) / in
	})
}

// Lowest returns two rates in lowest terms.
func Lowest(in, out int) (a, b int, e api.Errno) {
	e = done(func() {
		mustRates(in, out)
		a, b = lowest(in, out)
	})
	return a, b, e
}

// lowest returns a fraction in lowest terms; b is above 0.
func lowest(a, b int) (int, int) {
	n, rest := b, a
	for rest != 0 {
		n, rest = rest, n%rest
	}
	return a / n, b / n
}
