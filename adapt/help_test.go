package adapt_test

import (
	"slices"
	"strings"
	"testing"

	"continuo/adapt"
	"continuo/api"
	"continuo/layout"
	"continuo/resample"
	"continuo/sample"
	"continuo/volume"
)

const (
	one  = api.One
	half = api.One / 2
	most = api.MaxSample
	top  = api.MaxGain
)

var (
	mono   = []int{api.PMono}
	stereo = []int{api.PFL, api.PFR}
	six    = []int{api.PFL, api.PFR, api.PFC, api.PLFE, api.PRL, api.PRR}
	linear = api.Turn{Quality: 1}
	cubic  = api.Turn{Quality: 2}
)

// fixed is a fixed format that is interleaved.
func fixed(encoding, rate int, l []int) api.Fixed {
	return api.Fixed{Encoding: encoding, Rate: rate, Layout: l}
}

// planar is a fixed format that is planar.
func planar(encoding, rate int, l []int) api.Fixed {
	return api.Fixed{Encoding: encoding, Rate: rate, Layout: l, Planar: true}
}

// must returns what a lower layer gives where nothing can be wrong.
func must[T any](out T, e api.Errno) T {
	if e != api.OK {
		panic(e)
	}
	return out
}

// told is an adapter as the chapter tells it, which does its steps with one frame at a time.
type told struct {
	from, to api.Fixed
	gains    []int
	bytes    string          // of a frame that is not whole
	state    *resample.State // nil: none
	noise    *sample.Dither  // nil: none
	passes   bool
}

func newTold(from, to api.Fixed, t api.Turn) *told {
	m := &told{from: from, to: to, gains: t.Gains}
	if len(m.gains) == 0 {
		m.gains = slices.Repeat([]int{one}, len(to.Layout))
	}
	if from.Rate != to.Rate {
		m.state = must(resample.New(from.Rate, to.Rate, t.Quality, min(len(from.Layout), len(to.Layout))))
	}
	if t.Seed > 0 && bits(to) <= 16 {
		m.noise = must(sample.NewDither(to.Encoding, t.Seed, len(to.Layout), true))
	}
	m.passes = toldSteps(from, to, t)[0] == "pass"
	return m
}

// toldSteps are the words of the chapter's list, one after the other.
func toldSteps(from, to api.Fixed, t api.Turn) []string {
	louder := slices.ContainsFunc(t.Gains, func(n int) bool { return n != one })
	same := from.Encoding == to.Encoding && from.Rate == to.Rate && from.Planar == to.Planar && slices.Equal(from.Layout, to.Layout)
	if same && !louder && t.Seed == 0 {
		return []string{"pass"}
	}
	out := []string{"decode"}
	if !slices.Equal(from.Layout, to.Layout) && len(from.Layout) >= len(to.Layout) {
		out = append(out, "mix")
	}
	if from.Rate != to.Rate {
		out = append(out, "rate")
	}
	if len(from.Layout) < len(to.Layout) {
		out = append(out, "mix")
	}
	if louder {
		out = append(out, "gain")
	}
	return append(out, "encode")
}

func bits(f api.Fixed) int { return must(sample.Bits(f.Encoding)) }

// size is how many bytes a frame has.
func size(f api.Fixed) int { return len(f.Layout) * bits(f) / 8 }

// push is Push of what fits.
func (m *told) push(s string) string {
	all := m.bytes + s
	count := len(all) / size(m.from)
	whole, rest := all[:count*size(m.from)], all[count*size(m.from):]
	m.bytes = rest
	if m.passes {
		return whole
	}
	b := must(sample.Decode(m.from.Encoding, m.from.Planar, len(m.from.Layout), whole))
	var made []api.Block
	for i := range count {
		made = append(made, m.frame(part(b, i, i+1)))
	}
	return m.write(made)
}

// frame is what a frame becomes, between decode and encode.
func (m *told) frame(b api.Block) api.Block {
	b = m.fewer(b)
	if m.state != nil {
		b = must(m.state.Push(b))
	}
	return m.louder(m.more(b))
}

// fewer and more are the steps mix ahead of and behind rate.
func (m *told) fewer(b api.Block) api.Block {
	if len(m.from.Layout) < len(m.to.Layout) {
		return b
	}
	return m.mixed(b)
}

func (m *told) more(b api.Block) api.Block {
	if len(m.from.Layout) < len(m.to.Layout) {
		return m.mixed(b)
	}
	return b
}

func (m *told) mixed(b api.Block) api.Block {
	return must(layout.Apply(must(layout.Normal(must(layout.Between(m.from.Layout, m.to.Layout, true)))), b))
}

// louder gives each channel its gain, each alone.
func (m *told) louder(b api.Block) api.Block {
	var out api.Block
	for i, channel := range b {
		out = append(out, must(volume.Apply(m.gains[i], api.Block{channel}))[0])
	}
	return out
}

// write writes what was made as one block.
func (m *told) write(made []api.Block) string {
	b := must(layout.Silent(len(m.to.Layout), 0))
	for _, x := range made {
		b = behind(b, x)
	}
	if m.noise != nil {
		return must(m.noise.Encode(m.to.Planar, b))
	}
	return must(sample.Encode(m.to.Encoding, m.to.Planar, b))
}

// drain is Drain.
func (m *told) drain() string {
	m.bytes = ""
	if m.passes || m.state == nil {
		return ""
	}
	return m.write([]api.Block{m.louder(m.more(must(m.state.Drain())))})
}

// made is New with what is right.
func made(t *testing.T, from, to api.Fixed, turn api.Turn) *adapt.Adapter {
	t.Helper()
	a, e := adapt.New(from, to, turn)
	if e != api.OK || a == nil {
		t.Fatalf("New(%v, %v, %v) = %v, %d", from, to, turn, a, e)
	}
	return a
}

// pushed is Push of what fits.
func pushed(t *testing.T, a *adapt.Adapter, s string) string {
	t.Helper()
	out, e := a.Push(s)
	if e != api.OK {
		t.Fatalf("Push(%d bytes) = %d", len(s), e)
	}
	return out
}

// drained is Drain with what is right.
func drained(t *testing.T, a *adapt.Adapter) string {
	t.Helper()
	out, e := a.Drain()
	if e != api.OK || a.Waiting() != 0 {
		t.Fatalf("Drain = %q, %d; then %d bytes wait", out, e, a.Waiting())
	}
	return out
}

// adjust is Adjust with what is right.
func adjust(t *testing.T, a *adapt.Adapter, n int) {
	t.Helper()
	if e := a.Adjust(n); e != api.OK {
		t.Fatalf("Adjust(%d) = %d", n, e)
	}
}

// fails asks for an error of Push, beside which nothing comes out.
func fails(t *testing.T, a *adapt.Adapter, s string, want api.Errno) {
	t.Helper()
	if out, e := a.Push(s); out != "" || e != want {
		t.Errorf("Push(%d bytes) = %d bytes, %d, not %d", len(s), len(out), e, want)
	}
}

// blocked is Block of what fits.
func blocked(t *testing.T, from, to api.Fixed, turn api.Turn, b api.Block) api.Block {
	t.Helper()
	out, e := adapt.Block(from, to, turn, b)
	if e != api.OK || !layout.ValidBlock(out) || len(out) != len(to.Layout) {
		t.Fatalf("Block(%v, %v, %v, %d channels) = %d channels, %d", from, to, turn, len(b), len(out), e)
	}
	return out
}

// behind puts a block behind another one.
func behind(a, b api.Block) api.Block {
	var out api.Block
	for i := range b {
		out = append(out, slices.Concat(a[i], b[i]))
	}
	return out
}

// part returns the frames from one up to before another one.
func part(b api.Block, from, to int) api.Block {
	var out api.Block
	for _, channel := range b {
		out = append(out, slices.Clone(channel[from:to]))
	}
	return out
}

// same reports whether two blocks are equal.
func same(a, b api.Block) bool { return slices.EqualFunc(a, b, slices.Equal[[]int]) }

// filled returns so many channels of so many numbers n.
func filled(channels, frames, n int) api.Block {
	var out api.Block
	for range channels {
		out = append(out, slices.Repeat([]int{n}, frames))
	}
	return out
}

// draws are numbers that look drawn, the same ones each time.
type draws uint64

func (d *draws) below(n int) int {
	*d = *d*6364136223846793005 + 1442695040888963407
	return int(uint64(*d)>>33) % n
}

// within draws a number from -most to most.
func (d *draws) within(most int) int { return d.below(2*most+1) - most }

// layout draws different positions, or a usual layout.
func (d *draws) layout() []int {
	n := d.below(api.MaxChannels) + 1
	if d.below(2) == 0 {
		return must(layout.Usual(n))
	}
	l := []int{1, 2, 3, 4, 5, 6, 7, 8, 9, 10}
	for i := range n {
		k := i + d.below(len(l)-i)
		l[i], l[k] = l[k], l[i]
	}
	return l[:n:n]
}

// rates draws two rates that are near enough, about as often equal as not.
func (d *draws) rates() (from, to int) {
	usual := []int{8000, 16000, 22050, 44100, 48000, 96000, 192000}
	switch d.below(4) {
	case 0:
		return usual[d.below(7)], usual[d.below(7)]
	case 1:
		return d.below(12) + 1, d.below(12) + 1
	}
	n := d.below(api.MaxRate) + 1
	return n, n
}

func (d *draws) fixed(rate int) api.Fixed {
	return api.Fixed{Encoding: d.below(8) + 1, Rate: rate, Layout: d.layout(), Planar: d.below(3) == 0}
}

// pair draws two formats; one in three pairs has one layout, and one in twelve is of equal formats.
func (d *draws) pair() (from, to api.Fixed) {
	in, out := d.rates()
	from, to = d.fixed(in), d.fixed(out)
	switch d.below(12) {
	case 0:
		return from, from
	case 1, 2, 3:
		to.Layout = from.Layout
	}
	return from, to
}

// turn draws a turn for a format.
func (d *draws) turn(f api.Fixed) api.Turn {
	t := api.Turn{Quality: d.below(2) + 1}
	if d.below(2) == 0 {
		t.Seed = d.below(1<<31-1) + 1
	}
	switch d.below(3) {
	case 0:
		for range f.Layout {
			t.Gains = append(t.Gains, []int{0, one, half, top, 1, d.below(top + 1)}[d.below(6)])
		}
	case 1:
		t.Gains = slices.Repeat([]int{one}, len(f.Layout))
	}
	return t
}

// bytes draws so many bytes: any, or such that are often at the ends.
func (d *draws) bytes(n int) string {
	ends := d.below(3) == 0
	var out strings.Builder
	for range n {
		b := byte(d.below(256))
		if ends {
			b = []byte{0, 1, 127, 128, 129, 255}[d.below(6)]
		}
		out.WriteByte(b)
	}
	return out.String()
}

// room is how many frames to push at most so that not too many are made.
func room(from, to api.Fixed) int { return min(api.MaxFrames, 3500*from.Rate/to.Rate) }

// block draws a block of loud samples, of such that are at the bounds, or of quiet ones.
func (d *draws) block(channels, frames int) api.Block {
	level := []int{most, most, 1000, 3}[d.below(4)]
	edges := d.below(3) == 0
	out := make(api.Block, channels)
	for i := range out {
		out[i] = []int{}
		for range frames {
			n := d.within(level)
			if edges {
				n = d.within(1) * level
			}
			out[i] = append(out[i], n)
		}
	}
	return out
}

// noNumbers are beyond every bound.
func noNumbers() []int { return []int{-1, 1 << 32, 1 << 62, -1 << 63, 1<<63 - 1, 1<<32 + 1} }

// invalidFixed are almost right.
func invalidFixed() []api.Fixed {
	out := []api.Fixed{
		{}, fixed(api.E16L, 48000, nil), fixed(api.E16L, 48000, []int{}), fixed(api.E16L, 48000, []int{2, 2}), fixed(api.E16L, 48000, []int{2, 3, 2}),
		fixed(api.E16L, 48000, []int{0}), fixed(api.E16L, 48000, []int{11}), fixed(api.E16L, 48000, []int{-1}), fixed(api.E16L, 48000, []int{1, 1 << 62}),
		fixed(api.E16L, 48000, []int{1, 2, 3, 4, 5, 6, 7, 8, 9}), fixed(api.E16L, 48000, slices.Repeat([]int{1}, 100000)),
		planar(0, 48000, mono), planar(9, 48000, mono), planar(api.E16L, 0, mono), planar(api.E16L, api.MaxRate+1, mono), planar(api.E16L, 48000, nil),
	}
	for _, n := range append(noNumbers(), 0) {
		out = append(out, fixed(n, 48000, stereo), fixed(api.E8, n, stereo))
	}
	return append(out, fixed(9, 48000, stereo), fixed(api.E8, api.MaxRate+1, stereo))
}

// invalidTurns are almost right for two channels.
func invalidTurns() []api.Turn {
	out := []api.Turn{
		{}, {Quality: 3}, {Quality: 1, Gains: []int{one}}, {Quality: 2, Gains: []int{one, one, one}}, {Quality: 1, Gains: slices.Repeat([]int{one}, 100000)},
		{Quality: 1, Gains: []int{one, top + 1}}, {Quality: 1, Gains: []int{top + 1, one}}, {Quality: 1, Seed: 1 << 31}, {Quality: 2, Gains: []int{one, one}, Seed: -5},
	}
	for _, n := range noNumbers() {
		out = append(out, api.Turn{Quality: n}, api.Turn{Quality: 1, Seed: n}, api.Turn{Quality: 1, Gains: []int{n, 0}}, api.Turn{Quality: 2, Gains: []int{0, n}})
	}
	return out
}

// invalidBlocks are almost right.
func invalidBlocks() []api.Block {
	return []api.Block{
		nil, {}, filled(9, 0, 0), filled(9, 3, 0), filled(100000, 0, 0), {{1}, {}}, {{}, {1}}, {{1, 2}, {3}}, {{1}, {2}, nil},
		filled(1, api.MaxFrames+1, 0), filled(2, api.MaxFrames+1, 0), {make([]int, api.MaxFrames), make([]int, api.MaxFrames+1)},
		{{most + 1}}, {{-most - 1}}, {{0, 0}, {0, most + 1}}, {{0, -most - 1}, {0, 0}}, {{1<<63 - 1}}, {{-1 << 63}},
	}
}
