package adapt

import (
	"strings"

	"continuo/api"
	"continuo/layout"
	"continuo/resample"
	"continuo/sample"
	"continuo/volume"
)

// piece is what steps hand on: bytes ahead of decode and behind encode, samples in between.
type piece struct {
	bytes   string
	samples api.Block
	last    bool // nothing follows, so that nothing is held back
}

// step makes of a piece that comes the one that goes.
type step interface {
	take(p piece) piece
	own() step // one that goes on by itself
}

// The steps; encode and dither are two ways of one.
type (
	pass   struct{}
	decode struct {
		encoding, channels int
		planar             bool
	}
	mix    [][]int
	rate   struct{ state *resample.State }
	gain   struct{ volume *volume.Volume }
	encode struct {
		encoding int
		planar   bool
	}
	dither struct {
		state  *sample.Dither
		planar bool
	}
)

func (pass) take(p piece) piece {
	p.bytes = strings.Clone(p.bytes)
	return p
}

func (d decode) take(p piece) piece {
	p.samples = got(sample.Decode(d.encoding, d.planar, d.channels, p.bytes))
	return p
}

func (m mix) take(p piece) piece {
	p.samples = got(layout.Apply(m, p.samples))
	return p
}

func (r rate) take(p piece) piece {
	made := []api.Block{got(r.state.Push(p.samples))}
	if p.last {
		made = append(made, got(r.state.Drain()))
	}
	p.samples = got(sample.Join(made))
	return p
}

func (g gain) take(p piece) piece {
	p.samples = got(g.volume.Push(p.samples))
	return p
}

func (c encode) take(p piece) piece {
	p.bytes = got(sample.Encode(c.encoding, c.planar, p.samples))
	return p
}

func (d dither) take(p piece) piece {
	p.bytes = got(d.state.Encode(d.planar, p.samples))
	return p
}

func (s pass) own() step { return s }

func (d decode) own() step { return d }

func (m mix) own() step { return m }

func (r rate) own() step { return rate{r.state.Copy()} }

func (g gain) own() step { return gain{g.volume.Copy()} }

func (c encode) own() step { return c }

func (d dither) own() step { return dither{d.state.Copy(), d.planar} }
