package resample_test

import (
	"math/big"
	"slices"
	"testing"

	"continuo/api"
	"continuo/resample"
)

// told is a resampler as the chapter tells it: it holds all that came, and its place as an exact number.
type told struct {
	in, out, quality int
	x                [][]int // of each channel all that came
	place            *big.Rat
	adjustment, made int
}

func newTold(in, out, quality, channels int) *told {
	return &told{in: in, out: out, quality: quality, x: make([][]int, channels), place: new(big.Rat)}
}

func (m *told) came() int { return len(m.x[0]) }

// whole is the whole part of the place, and rest what is behind it.
func (m *told) whole() (whole int, rest *big.Rat) {
	n := new(big.Int).Quo(m.place.Num(), m.place.Denom())
	return int(n.Int64()), new(big.Rat).Sub(m.place, new(big.Rat).SetInt(n))
}

// sample is x(i) of a channel: 0 ahead of the first one, and behind the last one.
func (m *told) sample(channel, i int) int {
	if i < 0 || i >= m.came() {
		return 0
	}
	return m.x[channel][i]
}

// frame is the next frame.
func (m *told) frame() []int {
	i, rest := m.whole()
	phase := new(big.Rat).Mul(rest, big.NewRat(256, 1))
	k := new(big.Int).Quo(phase.Num(), phase.Denom()).Int64()
	var out []int
	for c := range m.x {
		if m.quality == 1 {
			sum := (256-k)*int64(m.sample(c, i)) + k*int64(m.sample(c, i+1))
			out = append(out, nearest(big.NewInt(sum), 256))
			continue
		}
		out = append(out, nearest(cubic(k, m.sample(c, i-1), m.sample(c, i), m.sample(c, i+1), m.sample(c, i+2)), 100663296))
	}
	return out
}

// cubic is the chapter's sum for a phase.
func cubic(k int64, x ...int) *big.Int {
	const n = 256
	sum := new(big.Int)
	for i, factors := range [][]int64{{-1, k, n - k, 2*n - k}, {3, n + k, n - k, 2*n - k}, {3, k, n + k, 2*n - k}, {-1, k, n + k, n - k}} {
		product := big.NewInt(int64(x[i]))
		for _, f := range factors {
			product.Mul(product, big.NewInt(f))
		}
		sum.Add(sum, product)
	}
	return sum
}

// step moves the place on by the step of now.
func (m *told) step() {
	step := new(big.Rat).Mul(big.NewRat(int64(m.in), int64(m.out)), big.NewRat(int64(1000000+m.adjustment), 1000000))
	m.place.Add(m.place, step)
	m.made++
}

// push is Push; the last frame that has come is x(came - 1).
func (m *told) push(b api.Block) [][]int {
	for c := range m.x {
		m.x[c] = append(m.x[c], b[c]...)
	}
	return m.make(func(whole int) bool { return whole+m.quality < m.came() })
}

// make makes frames as long as they can be made.
func (m *told) make(can func(whole int) bool) [][]int {
	out := make([][]int, len(m.x))
	for {
		if whole, _ := m.whole(); !can(whole) {
			return out
		}
		for c, n := range m.frame() {
			out[c] = append(out[c], n)
		}
		m.step()
	}
}

// drain is Drain.
func (m *told) drain() [][]int {
	out := m.make(func(whole int) bool { return whole < m.came() })
	m.reset()
	return out
}

func (m *told) reset() { m.x, m.place, m.made = make([][]int, len(m.x)), new(big.Rat), 0 }

// copy returns one of its own.
func (m *told) copy() *told {
	out := *m
	out.x, out.place = nil, new(big.Rat).Set(m.place)
	for _, channel := range m.x {
		out.x = append(out.x, slices.Clone(channel))
	}
	return &out
}

// nearest is the whole number nearest to a / n, of two the one further from 0, within the bounds of samples.
func nearest(a *big.Int, n int64) int {
	twice := new(big.Int).Add(new(big.Int).Abs(a), big.NewInt(n/2))
	out := int(twice.Quo(twice, big.NewInt(n)).Int64())
	return clamped(out*a.Sign(), api.MaxSample)
}

func clamped(n, most int) int {
	if n > most {
		return most
	}
	if n < -most {
		return -most
	}
	return n
}

// agree compares a State with what it is told to be.
func agree(t *testing.T, s *resample.State, m *told) {
	t.Helper()
	whole, num, den := s.Place()
	i, rest := m.whole()
	if whole != i || !rest.Num().IsInt64() || int64(num) != rest.Num().Int64() || int64(den) != rest.Denom().Int64() {
		t.Fatalf("Place = %d, %d / %d, not %d, %s", whole, num, den, i, rest)
	}
	if s.Came() != m.came() || s.Made() != m.made || s.Adjusted() != m.adjustment || s.Ahead() != m.quality {
		t.Fatalf("came %d, made %d, adjusted %d, ahead %d, not %d, %d, %d, %d", s.Came(), s.Made(), s.Adjusted(), s.Ahead(), m.came(), m.made, m.adjustment, m.quality)
	}
}

// begun is New with what is right.
func begun(t *testing.T, in, out, quality, channels int) *resample.State {
	t.Helper()
	s, e := resample.New(in, out, quality, channels)
	if e != api.OK || s == nil {
		t.Fatalf("New(%d, %d, %d, %d) = %v, %d", in, out, quality, channels, s, e)
	}
	return s
}

// adjust is Adjust with what is right.
func adjust(t *testing.T, s *resample.State, a int) {
	t.Helper()
	if e := s.Adjust(a); e != api.OK || s.Adjusted() != a {
		t.Fatalf("Adjust(%d) = %d, Adjusted = %d", a, e, s.Adjusted())
	}
}

// pushed is Push of what fits.
func pushed(t *testing.T, s *resample.State, b api.Block) api.Block {
	t.Helper()
	out, e := s.Push(b)
	if e != api.OK || len(out) != len(b) {
		t.Fatalf("Push(%d frames) = %d channels, %d", len(b[0]), len(out), e)
	}
	return out
}

// drained is Drain of a State of so many channels.
func drained(t *testing.T, s *resample.State, channels int) api.Block {
	t.Helper()
	out, e := s.Drain()
	if e != api.OK || len(out) != channels {
		t.Fatalf("Drain = %d channels, %d", len(out), e)
	}
	return out
}

// whole is Whole of what fits.
func whole(t *testing.T, in, out, quality int, b api.Block) api.Block {
	t.Helper()
	made, e := resample.Whole(in, out, quality, b)
	if e != api.OK || len(made) != len(b) {
		t.Fatalf("Whole(%d, %d, %d, %d frames) = %d channels, %d", in, out, quality, len(b[0]), len(made), e)
	}
	return made
}

// weights is Weights of what is right.
func weights(t *testing.T, quality, k int) []int {
	t.Helper()
	l, e := resample.Weights(quality, k)
	if e != api.OK || len(l) != 2*quality {
		t.Fatalf("Weights(%d, %d) = %v, %d", quality, k, l, e)
	}
	return l
}

// behind puts a block behind another one.
func behind(a, b [][]int) [][]int {
	var out [][]int
	for i := range b {
		var row []int
		if a != nil {
			row = slices.Clone(a[i])
		}
		out = append(out, append(row, b[i]...))
	}
	return out
}

// part returns the frames from one up to before another one.
func part(b api.Block, from, to int) api.Block {
	var out api.Block
	for _, channel := range b {
		out = append(out, slices.Clone(channel[from:to]))
	}
	return out
}

// turned is a sound turned round.
func turned(b [][]int) [][]int {
	var out [][]int
	for _, channel := range b {
		var row []int
		for _, n := range channel {
			row = append(row, -n)
		}
		out = append(out, row)
	}
	return out
}

// same reports whether two blocks are equal.
func same(a, b [][]int) bool {
	return slices.EqualFunc(a, b, func(x, y []int) bool { return slices.Equal(x, y) })
}

// filled returns so many rows of so many numbers n.
func filled(rows, columns, n int) [][]int {
	var out [][]int
	for range rows {
		out = append(out, slices.Repeat([]int{n}, columns))
	}
	return out
}

// draws are numbers that look drawn, the same ones each time.
type draws uint64

func (d *draws) below(n int) int {
	*d = *d*6364136223846793005 + 1442695040888963407
	return int(uint64(*d)>>33) % n
}

// within draws a number from -most to most.
func (d *draws) within(most int) int { return d.below(2*most+1) - most }

func (d *draws) channels() int { return d.below(api.MaxChannels) + 1 }

func (d *draws) quality() int { return d.below(2) + 1 }

// rates draws two rates: usual ones, small ones, or any that are near enough.
func (d *draws) rates() (in, out int) {
	usual := []int{8000, 11025, 16000, 22050, 32000, 44100, 48000, 88200, 96000, 176400, 192000}
	switch d.below(3) {
	case 0:
		return usual[d.below(len(usual))], usual[d.below(len(usual))]
	case 1:
		return d.below(12) + 1, d.below(12) + 1
	}
	for {
		in, out = d.below(api.MaxRate)+1, d.below(api.MaxRate)+1
		if in <= 160*out && out <= 160*in {
			return in, out
		}
	}
}

// block draws a block of loud samples, of such that are at the bounds, or of quiet ones.
func (d *draws) block(channels, frames int) api.Block {
	most := []int{api.MaxSample, api.MaxSample, 1000, 3}[d.below(4)]
	edges := d.below(3) == 0
	out := make(api.Block, channels)
	for i := range out {
		out[i] = []int{}
		for range frames {
			n := d.within(most)
			if edges {
				n = d.within(1) * most
			}
			out[i] = append(out[i], n)
		}
	}
	return out
}

// room is how many frames to push at most so that not too many are made.
func room(in, out int) int { return min(api.MaxFrames, 3500*in/out) }

// noRates are almost right.
func noRates() []int {
	return []int{0, api.MaxRate + 1, -1, -48000, 1 << 62, -1 << 63, 1<<63 - 1, 1<<32 + 1}
}

// noQualities are almost right.
func noQualities() []int { return []int{0, 3, -1, 4, 1 << 62, -1 << 63, 1<<63 - 1, 1<<32 + 1} }

// noChannels are no number of channels.
func noChannels() []int { return []int{0, 9, -1, -8, 1 << 62, -1 << 63, 1<<63 - 1, 1<<32 + 1} }

// invalidBlocks are almost right.
func invalidBlocks() []api.Block {
	return []api.Block{
		nil, {}, filled(9, 0, 0), filled(9, 3, 0), filled(100000, 0, 0), {{1}, {}}, {{}, {1}}, {{1, 2}, {3}}, {{1}, {2}, nil},
		filled(1, api.MaxFrames+1, 0), filled(8, api.MaxFrames+1, 0), {make([]int, api.MaxFrames), make([]int, api.MaxFrames+1)},
		{{api.MaxSample + 1}}, {{-api.MaxSample - 1}}, {{0, 0}, {0, api.MaxSample + 1}}, {{0, -api.MaxSample - 1}, {0, 0}},
		{{1<<63 - 1}}, {{-1 << 63}},
	}
}
