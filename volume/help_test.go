package volume_test

import (
	"math/big"
	"slices"
	"testing"

	"continuo/api"
	"continuo/volume"
)

const (
	one  = api.One
	half = api.One / 2
	most = api.MaxSample
	top  = api.MaxGain
)

// told is a volume as the chapter tells it: each channel holds the gains of all frames that its ramp has still to go.
type told []toldChannel

type toldChannel struct {
	gain, target int
	muted        bool
	coming       []int
}

func newTold(channels int) told {
	return slices.Repeat(told{{gain: one, target: one}}, channels)
}

// now is the gain at the next frame.
func (c *toldChannel) now() int {
	if len(c.coming) > 0 {
		return c.coming[0]
	}
	return c.target
}

// turn is what setting does behind a new gain or mute.
func (c *toldChannel) turn(frames int) {
	target := c.gain
	if c.muted {
		target = 0
	}
	if target != c.target {
		c.coming, c.target = steps(c.now(), target, frames), target
	}
}

func (m told) set(gains []int, frames int) {
	for i := range m {
		m[i].gain = gains[i]
		m[i].turn(frames)
	}
}

func (m told) mute(mutes []bool, frames int) {
	for i := range m {
		m[i].muted = mutes[i]
		m[i].turn(frames)
	}
}

func (m told) push(b api.Block) api.Block {
	var out api.Block
	for i, samples := range b {
		c, row := &m[i], []int{}
		for _, n := range samples {
			row = append(row, louder(n, c.now()))
			c.coming = c.coming[min(1, len(c.coming)):]
		}
		out = append(out, row)
	}
	return out
}

func (m told) copy() told { return slices.Clone(m) } // coming is only cut, never written to

// agree compares a Volume with what it is told to be.
func agree(t *testing.T, v *volume.Volume, m told) {
	t.Helper()
	var gains, now []int
	left := 0
	for i := range m {
		gains, now = append(gains, m[i].gain), append(now, m[i].now())
		left = max(left, len(m[i].coming))
	}
	if !slices.Equal(v.Gains(), gains) || !slices.Equal(v.Now(), now) || v.Left() != left {
		t.Fatalf("gains %v, now %v, left %d, not %v, %v, %d", v.Gains(), v.Now(), v.Left(), gains, now, left)
	}
}

// steps are a ramp's gains.
func steps(from, to, frames int) []int {
	out := []int{}
	for i := range frames {
		out = append(out, from+nearest(product(to-from, i), frames))
	}
	return out
}

// louder is a sample with a gain.
func louder(n, gain int) int { return clamped(nearest(product(n, gain), one), most) }

func product(a, b int) *big.Int { return new(big.Int).Mul(big.NewInt(int64(a)), big.NewInt(int64(b))) }

// nearest is the whole number nearest to a / n, of two the one further from 0.
func nearest(a *big.Int, n int) int {
	twice := new(big.Int).Abs(a)
	twice.Lsh(twice, 1).Add(twice, big.NewInt(int64(n)))
	return int(twice.Quo(twice, big.NewInt(2*int64(n))).Int64()) * a.Sign()
}

func clamped(n, most int) int {
	if n > most {
		return most
	}
	if n < -most {
		return -most
	}
	return n
}

// begun is New with what is right.
func begun(t *testing.T, channels int) *volume.Volume {
	t.Helper()
	v, e := volume.New(channels)
	if e != api.OK || v == nil {
		t.Fatalf("New(%d) = %v, %d", channels, v, e)
	}
	return v
}

// set is Set with what is right.
func set(t *testing.T, v *volume.Volume, frames int, gains ...int) {
	t.Helper()
	if e := v.Set(gains, frames); e != api.OK || !slices.Equal(v.Gains(), gains) {
		t.Fatalf("Set(%v, %d) = %d, Gains = %v", gains, frames, e, v.Gains())
	}
}

// mute is Mute with what is right.
func mute(t *testing.T, v *volume.Volume, frames int, mutes ...bool) {
	t.Helper()
	gains := v.Gains()
	if e := v.Mute(mutes, frames); e != api.OK || !slices.Equal(v.Gains(), gains) {
		t.Fatalf("Mute(%v, %d) = %d, Gains = %v, not %v", mutes, frames, e, v.Gains(), gains)
	}
}

// pushed is Push of what fits.
func pushed(t *testing.T, v *volume.Volume, b api.Block) api.Block {
	t.Helper()
	out, e := v.Push(b)
	if e != api.OK || len(out) != len(b) {
		t.Fatalf("Push(%d frames) = %d channels, %d", len(b[0]), len(out), e)
	}
	return out
}

// applied is Apply of what fits.
func applied(t *testing.T, gain int, b api.Block) api.Block {
	t.Helper()
	out, e := volume.Apply(gain, b)
	if e != api.OK || len(out) != len(b) {
		t.Fatalf("Apply(%d, %d frames) = %d channels, %d", gain, len(b[0]), len(out), e)
	}
	return out
}

// ramped is Ramp of what fits.
func ramped(t *testing.T, from, to, frames int, b api.Block) api.Block {
	t.Helper()
	out, e := volume.Ramp(from, to, frames, b)
	if e != api.OK || len(out) != len(b) {
		t.Fatalf("Ramp(%d, %d, %d, %d frames) = %d channels, %d", from, to, frames, len(b[0]), len(out), e)
	}
	return out
}

// stepped is Steps of what fits.
func stepped(t *testing.T, from, to, frames int) []int {
	t.Helper()
	l, e := volume.Steps(from, to, frames)
	if e != api.OK || len(l) != frames {
		t.Fatalf("Steps(%d, %d, %d) = %v, %d", from, to, frames, l, e)
	}
	return l
}

// chained is Chain of what is right.
func chained(t *testing.T, gains ...int) int {
	t.Helper()
	n, e := volume.Chain(gains)
	if e != api.OK {
		t.Fatalf("Chain(%v) = %d, %d", gains, n, e)
	}
	return n
}

// mixed is Mix of what fits.
func mixed(t *testing.T, l []api.Block) api.Block {
	t.Helper()
	out, e := volume.Mix(l)
	if e != api.OK || len(out) != len(l[0]) {
		t.Fatalf("Mix(%d blocks) = %d channels, %d", len(l), len(out), e)
	}
	return out
}

// ducked is Duck of what fits.
func ducked(t *testing.T, b, by api.Block, bound, gain int) api.Block {
	t.Helper()
	out, e := volume.Duck(b, by, bound, gain)
	if e != api.OK || len(out) != len(b) {
		t.Fatalf("Duck(.., %d, %d) = %d channels, %d", bound, gain, len(out), e)
	}
	return out
}

// behind puts a block behind another one.
func behind(a, b api.Block) api.Block {
	var out api.Block
	for i := range b {
		var row []int
		if a != nil {
			row = slices.Clone(a[i])
		}
		out = append(out, append(row, b[i]...))
	}
	return out
}

// part returns the frames from one up to before another one.
func part(b api.Block, from, to int) api.Block {
	var out api.Block
	for _, channel := range b {
		out = append(out, slices.Clone(channel[from:to]))
	}
	return out
}

// same reports whether two blocks are equal.
func same(a, b api.Block) bool { return slices.EqualFunc(a, b, slices.Equal[[]int]) }

// filled returns so many channels of so many numbers n.
func filled(channels, frames, n int) api.Block {
	var out api.Block
	for range channels {
		out = append(out, slices.Repeat([]int{n}, frames))
	}
	return out
}

// draws are numbers that look drawn, the same ones each time.
type draws uint64

func (d *draws) below(n int) int {
	*d = *d*6364136223846793005 + 1442695040888963407
	return int(uint64(*d)>>33) % n
}

// within draws a number from -most to most.
func (d *draws) within(most int) int { return d.below(2*most+1) - most }

func (d *draws) channels() int { return d.below(api.MaxChannels) + 1 }

// frames draws the length of a ramp: none, a few, or many.
func (d *draws) frames() int { return []int{0, d.below(3), d.below(20), d.below(500)}[d.below(4)] }

// gain draws any gain, or one of a few usual ones.
func (d *draws) gain() int {
	return []int{0, one, half, top, 1, d.below(one), d.below(top + 1), d.below(top + 1)}[d.below(8)]
}

func (d *draws) gains(n int) []int {
	var out []int
	for range n {
		out = append(out, d.gain())
	}
	return out
}

func (d *draws) mutes(n int) []bool {
	var out []bool
	for range n {
		out = append(out, d.below(2) == 0)
	}
	return out
}

// block draws a block of loud samples, of such that are at the bounds, or of quiet ones.
func (d *draws) block(channels, frames int) api.Block {
	level := []int{most, most, 1000, 3}[d.below(4)]
	edges := d.below(3) == 0
	out := make(api.Block, channels)
	for i := range out {
		out[i] = []int{}
		for range frames {
			n := d.within(level)
			if edges {
				n = d.within(1) * level
			}
			out[i] = append(out[i], n)
		}
	}
	return out
}

// blocks draws so many blocks that are alike.
func (d *draws) blocks(n, channels, frames int) []api.Block {
	var out []api.Block
	for range n {
		out = append(out, d.block(channels, frames))
	}
	return out
}

// noGains are almost right.
func noGains() []int { return []int{-1, top + 1, -one, 1 << 32, -1 << 63, 1<<63 - 1, 1<<32 + one} }

// noTimes are almost right.
func noTimes() []int {
	return []int{-1, api.MaxTime + 1, -api.MaxTime, 1 << 32, -1 << 63, 1<<63 - 1, 1<<32 + 1}
}

// noChannels are no number of channels.
func noChannels() []int { return []int{0, 9, -1, -8, 1 << 62, -1 << 63, 1<<63 - 1, 1<<32 + 1} }

// invalidBlocks are almost right.
func invalidBlocks() []api.Block {
	return []api.Block{
		nil, {}, filled(9, 0, 0), filled(9, 3, 0), filled(100000, 0, 0), {{1}, {}}, {{}, {1}}, {{1, 2}, {3}}, {{1}, {2}, nil},
		filled(1, api.MaxFrames+1, 0), filled(8, api.MaxFrames+1, 0), {make([]int, api.MaxFrames), make([]int, api.MaxFrames+1)},
		{{most + 1}}, {{-most - 1}}, {{0, 0}, {0, most + 1}}, {{0, -most - 1}, {0, 0}},
		{{1<<63 - 1}}, {{-1 << 63}},
	}
}
