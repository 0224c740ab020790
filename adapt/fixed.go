package adapt

import (
	"slices"

	"continuo/api"
	"continuo/layout"
	"continuo/sample"
)

// seeds are how many numbers, 0 among them, are below layer 4's bound.
const seeds = 1 << 31

// Valid reports whether a fixed format is valid.
func Valid(f api.Fixed) bool {
	_, e := sample.Bits(f.Encoding)
	return e == api.OK && f.Rate >= 1 && f.Rate <= api.MaxRate && layout.Valid(f.Layout)
}

// ValidTurn reports whether a turn is valid for the format that it leads to.
func ValidTurn(f api.Fixed, t api.Turn) bool {
	return Valid(f) && (t.Quality == 1 || t.Quality == 2) && areGains(t.Gains, len(f.Layout)) && t.Seed >= 0 && t.Seed < seeds
}

// areGains reports whether gains are none, or one for each channel.
func areGains(gains []int, channels int) bool {
	if len(gains) != 0 && len(gains) != channels {
		return false
	}
	return !slices.ContainsFunc(gains, func(n int) bool { return n < 0 || n > api.MaxGain })
}

// sameFixed reports whether two fixed formats are equal.
func sameFixed(a, b api.Fixed) bool {
	return a.Encoding == b.Encoding && a.Rate == b.Rate && slices.Equal(a.Layout, b.Layout) && a.Planar == b.Planar
}

// Frame returns how many bytes a frame has.
func Frame(f api.Fixed) (int, api.Errno) {
	return fitted(func() int {
		must(Valid(f), api.ErrInvalid)
		return frameOf(f)
	})
}

func frameOf(f api.Fixed) int { return got(sample.Size(f.Encoding, len(f.Layout), 1)) }
