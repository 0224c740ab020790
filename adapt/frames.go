package adapt

import (
	"strings"

	"continuo/api"
)

// frames are those of a format whose bytes come in pieces.
type frames struct {
	size   int // bytes of a frame
	planar bool
	rest   string // what waits: the bytes of a frame that is not whole
}

func framesOf(f api.Fixed) frames { return frames{size: frameOf(f), planar: f.Planar} }

// cut returns the bytes of the frames that are whole with what comes, and those of the one that is not.
func (f frames) cut(s string) (whole, rest string) {
	must(!f.planar || len(s)%f.size == 0, api.ErrSize)
	all := f.rest + s
	count := len(all) / f.size
	must(count <= api.MaxFrames, api.ErrLimit)
	end := count * f.size
	return all[:end], strings.Clone(all[end:])
}
