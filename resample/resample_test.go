package resample_test

import (
	"testing"

	"continuo/api"
	"continuo/resample"
)

const most = api.MaxSample

// The kernel, 5.3: frames that were worked out by hand.
func TestWholeByHand(t *testing.T) {
	tests := []struct {
		in, out, quality int
		b, want          api.Block
	}{
		{1, 2, 1, api.Block{{0, 10}}, api.Block{{0, 5, 10, 5}}}, // the chapter's example
		{44100, 88200, 1, api.Block{{0, 10}}, api.Block{{0, 5, 10, 5}}},
		{2, 3, 1, api.Block{{3, 6, -9}}, api.Block{{3, 5, 1, -9, -3}}}, // phases 0, 170, 85, 0, 170
		{3, 1, 1, api.Block{{1, 2, 3, 4, 5, 6, 7}}, api.Block{{1, 4, 7}}},
		{3, 1, 2, api.Block{{1, 2, 3, 4, 5, 6, 7, 8}}, api.Block{{1, 4, 7}}},
		{1, 2, 1, api.Block{{1, 2}, {-1, -2}}, api.Block{{1, 2, 2, 1}, {-1, -2, -2, -1}}}, // halves go away from 0
		{1, 4, 1, api.Block{{2}, {-2}}, api.Block{{2, 2, 1, 1}, {-2, -2, -1, -1}}},
		{1, 2, 1, api.Block{{most, most}}, api.Block{{most, most, most, 4194304}}},
		{1, 2, 2, api.Block{{16, 16, 16, 0}}, api.Block{{16, 17, 16, 17, 16, 8, 0, -1}}}, // (-1 9 9 -1) / 16
		{1, 4, 2, api.Block{{16, 0}}, api.Block{{16, 13, 9, 4, 0, -1, -1, -1}}},
		{1, 2, 2, api.Block{{8}, {-8}}, api.Block{{8, 5}, {-8, -5}}}, // 4.5 and -4.5
		{1, 2, 2, api.Block{{most, most}, {-most, -most}}, api.Block{{most, most, most, 4194304}, {-most, -most, -most, -4194304}}},
		{1, 2, 2, api.Block{{-most, most, most, -most}}, api.Block{{-most, -524288, most, most, most, -524288, -most, -5242879}}},
		{160, 1, 1, api.Block{make([]int, 161)}, api.Block{{0, 0}}},
		{7, 7, 2, api.Block{{}, {}}, api.Block{{}, {}}},
	}
	for _, x := range tests {
		if got := whole(t, x.in, x.out, x.quality, x.b); !same(got, x.want) {
			t.Errorf("Whole(%d, %d, %d, %v) = %v, not %v", x.in, x.out, x.quality, x.b, got, x.want)
		}
	}
}

// 5.1, 5.2: a frame waits for as many samples as it needs, and no longer; Drain gives those that wait.
func TestPushByHand(t *testing.T) {
	s := begun(t, 1, 2, 1, 1)
	tests := []struct{ push, want []int }{{nil, nil}, {[]int{0}, nil}, {nil, nil}, {[]int{10}, []int{0, 5}}, {nil, nil}, {[]int{20, 40}, []int{10, 15, 20, 30}}}
	for i, x := range tests {
		if got := pushed(t, s, api.Block{x.push}); !same(got, [][]int{x.want}) {
			t.Errorf("%d: Push(%v) = %v, not %v", i, x.push, got, x.want)
		}
	}
	if got := drained(t, s, 1); !same(got, [][]int{{40, 20}}) {
		t.Errorf("Drain = %v", got)
	}
	s = begun(t, 1, 2, 2, 2)
	if got := pushed(t, s, api.Block{{16, 16}, {0, 0}}); !same(got, [][]int{{}, {}}) {
		t.Errorf("Push = %v", got)
	}
	if got := pushed(t, s, api.Block{{16}, {-32}}); !same(got, [][]int{{16, 17}, {0, 2}}) {
		t.Errorf("Push = %v", got)
	}
	if got := drained(t, s, 2); !same(got, [][]int{{16, 17, 16, 8}, {0, -18, -32, -18}}) {
		t.Errorf("Drain = %v", got)
	}
}

// The kernel, 5.1, 5.2: the place of the next frame, and what came and was made.
func TestPlaceByHand(t *testing.T) {
	s := begun(t, 48000, 44100, 2, 1)
	check := func(came, made, whole, num, den int) {
		t.Helper()
		if w, n, d := s.Place(); w != whole || n != num || d != den || s.Came() != came || s.Made() != made {
			t.Errorf("came %d, made %d, Place = %d, %d / %d, not %d, %d, %d, %d / %d", s.Came(), s.Made(), w, n, d, came, made, whole, num, den)
		}
	}
	check(0, 0, 0, 0, 1)
	pushed(t, s, api.Block{make([]int, 2)})
	check(2, 0, 0, 0, 1)
	pushed(t, s, api.Block{make([]int, 98)})
	check(100, 91, 99, 1, 21) // 91 * 160 / 147
	drained(t, s, 1)
	check(0, 0, 0, 0, 1)
	pushed(t, s, api.Block{make([]int, 3)})
	check(3, 1, 1, 13, 147)
	if e := s.Reset(); e != api.OK {
		t.Errorf("Reset = %d", e)
	}
	check(0, 0, 0, 0, 1)
}

// The kernel, 5.1: the step behind a frame is that of when the frame is made.
func TestAdjustByHand(t *testing.T) {
	s := begun(t, 1, 1, 1, 1)
	if s.Adjusted() != 0 {
		t.Errorf("Adjusted = %d", s.Adjusted())
	}
	check := func(whole, num, den int) {
		t.Helper()
		if w, n, d := s.Place(); w != whole || n != num || d != den {
			t.Errorf("Place = %d, %d / %d, not %d, %d / %d", w, n, d, whole, num, den)
		}
	}
	adjust(t, s, 100000)
	check(0, 0, 1)
	if got := pushed(t, s, api.Block{{0, 1000, 2000}}); !same(got, [][]int{{0, 1098}}) { // at 0 and 1.1: phase 25
		t.Errorf("Push = %v", got)
	}
	check(2, 1, 5)
	adjust(t, s, -100000)
	check(2, 1, 5)
	if got := pushed(t, s, api.Block{{3000}}); !same(got, [][]int{{2199}}) { // at 2.2: phase 51
		t.Errorf("Push = %v", got)
	}
	check(3, 1, 10)
	adjust(t, s, 1)
	if got := pushed(t, s, api.Block{{4000}}); !same(got, [][]int{{3098}}) {
		t.Errorf("Push = %v", got)
	}
	check(4, 100001, 1000000)
	if got := drained(t, s, 1); !same(got, [][]int{{3609}}) { // at 4.1, before zeros
		t.Errorf("Drain = %v", got)
	}
	check(0, 0, 1)
	if s.Adjusted() != 1 {
		t.Errorf("behind Drain: Adjusted = %d", s.Adjusted())
	}
	s.Reset()
	if s.Adjusted() != 1 {
		t.Errorf("behind Reset: Adjusted = %d", s.Adjusted())
	}
	pushed(t, s, api.Block{{1, 2}})
	check(1, 1, 1000000)
}

// 5.1 to 5.3, P5.2, P4, P8: whatever is done in whatever order, frames, places and counts are as the chapter tells them, and are read back.
func TestDrawn(t *testing.T) {
	for seed := range 400 {
		d := draws(seed)
		in, out := d.rates()
		quality, channels := d.quality(), d.channels()
		s, m := begun(t, in, out, quality, channels), newTold(in, out, quality, channels)
		for range 12 {
			step(t, &d, s, m)
			agree(t, s, m)
			if d.below(4) == 0 {
				old, was := s, m.copy()
				s = s.Copy()
				step(t, &d, s, m)
				agree(t, s, m)
				agree(t, old, was)
			}
		}
		if got, want := drained(t, s, channels), m.drain(); !same(got, want) {
			t.Fatalf("%d: %d to %d: Drain = %v, not %v", seed, in, out, got, want)
		}
		agree(t, s, m)
	}
}

// step does one thing with a State and with what it is told to be.
func step(t *testing.T, d *draws, s *resample.State, m *told) {
	t.Helper()
	switch d.below(8) {
	case 0:
		m.adjustment = []int{-100000, 100000, 0, d.within(100000), d.within(100)}[d.below(5)]
		adjust(t, s, m.adjustment)
	case 1:
		if got, want := drained(t, s, len(m.x)), m.drain(); !same(got, want) {
			t.Fatalf("%d to %d: Drain = %v, not %v", m.in, m.out, got, want)
		}
	case 2:
		m.reset()
		if e := s.Reset(); e != api.OK {
			t.Fatalf("Reset = %d", e)
		}
	default:
		frames := d.below(min([]int{3, 20, 300}[d.below(3)], room(m.in, m.out)) + 1)
		b := d.block(len(m.x), frames)
		if got, want := pushed(t, s, b), m.push(b); !same(got, want) {
			t.Fatalf("%d to %d, quality %d: Push(%v) = %v, not %v", m.in, m.out, m.quality, b, got, want)
		}
	}
}

// 5.1: New's errors, and their order.
func TestNewErrors(t *testing.T) {
	check := func(in, out, quality, channels int, want api.Errno) {
		t.Helper()
		if s, e := resample.New(in, out, quality, channels); e != want || s != nil {
			t.Errorf("New(%d, %d, %d, %d) = %v, %d, not %d", in, out, quality, channels, s, e, want)
		}
	}
	for _, n := range noRates() {
		check(n, 1, 1, 1, api.ErrRange)
		check(1, n, 1, 1, api.ErrRange)
		check(n, n, 1, 1, api.ErrRange)
		check(api.MaxRate, n, 1, 1, api.ErrRange)
	}
	for _, n := range noQualities() {
		check(1, 1, n, 1, api.ErrRange)
		check(1, 161, n, 1, api.ErrRange)
	}
	for _, n := range noChannels() {
		check(1, 1, 1, n, api.ErrRange)
		check(161, 1, 1, n, api.ErrRange)
	}
	for _, low := range []int{1, 2, 50, 1199} {
		begun(t, low, 160*low, 1, 1)
		begun(t, 160*low, low, 2, 8)
		check(low, 160*low+1, 1, 1, api.ErrKind)
		check(160*low+1, low, 2, 8, api.ErrKind)
	}
	begun(t, api.MaxRate, api.MaxRate, 2, 8)
	begun(t, 1200, api.MaxRate, 1, 1)
	check(1199, api.MaxRate, 1, 1, api.ErrKind)
	check(api.MaxRate, 1, 1, 1, api.ErrKind)
}

// 5.1: adjustments beyond the bounds leave the one that is; R9.
func TestAdjustErrors(t *testing.T) {
	s := begun(t, 3, 4, 1, 1)
	adjust(t, s, 77)
	for _, a := range []int{100001, -100001, 1 << 62, -1 << 63, 1<<63 - 1, 1 << 32} {
		if e := s.Adjust(a); e != api.ErrRange || s.Adjusted() != 77 {
			t.Errorf("Adjust(%d) = %d, Adjusted = %d", a, e, s.Adjusted())
		}
	}
	for _, a := range []int{100000, -100000, 0} {
		adjust(t, s, a)
	}
}

// refused asks for an error of Push with which nothing is taken.
func refused(t *testing.T, s *resample.State, b api.Block, want api.Errno) {
	t.Helper()
	came, made := s.Came(), s.Made()
	whole, num, den := s.Place()
	if out, e := s.Push(b); e != want || len(out) != 0 {
		t.Errorf("Push(%d channels) = %d channels, %d, not %d", len(b), len(out), e, want)
	}
	if w, n, d := s.Place(); w != whole || n != num || d != den || s.Came() != came || s.Made() != made {
		t.Errorf("Push with %d takes something", want)
	}
}

// 5.1: Push's errors, and their order; nothing is taken (R9).
func TestPushErrors(t *testing.T) {
	s, x := begun(t, 2, 3, 2, 2), begun(t, 2, 3, 2, 2)
	first := api.Block{{1, 2, 3, 4, 5}, {6, 7, 8, 9, 10}}
	pushed(t, s, first)
	pushed(t, x, first)
	for _, b := range invalidBlocks() {
		refused(t, s, b, api.ErrInvalid)
	}
	for _, channels := range []int{1, 3, 8} {
		refused(t, s, filled(channels, 0, 0), api.ErrSize)
		refused(t, s, filled(channels, api.MaxFrames, 1), api.ErrSize) // ahead of ErrLimit
	}
	refused(t, s, filled(2, api.MaxFrames, 1), api.ErrLimit)
	second := api.Block{{11, 12}, {13, -14}}
	if got, want := pushed(t, s, second), pushed(t, x, second); !same(got, want) {
		t.Errorf("behind errors Push = %v, not %v", got, want)
	}
	if got, want := drained(t, s, 2), drained(t, x, 2); !same(got, want) {
		t.Errorf("behind errors Drain = %v, not %v", got, want)
	}
}

// 5.1: MaxFrames may be made at once, and not one more.
func TestPushLimit(t *testing.T) {
	s := begun(t, 1, 2, 1, 1) // 2048 * 2 frames of what came but the last one
	refused(t, s, filled(1, 2050, 5), api.ErrLimit)
	refused(t, s, filled(1, api.MaxFrames, 5), api.ErrLimit)
	if got := pushed(t, s, filled(1, 2049, 5)); !same(got, filled(1, api.MaxFrames, 5)) {
		t.Errorf("%d frames", len(got[0]))
	}
	s = begun(t, 1, 1, 2, 8)
	if got := pushed(t, s, filled(8, api.MaxFrames, 1)); len(got[0]) != api.MaxFrames-2 {
		t.Errorf("%d frames", len(got[0]))
	}
	if got := pushed(t, s, filled(8, api.MaxFrames, 1)); !same(got, filled(8, api.MaxFrames, 1)) {
		t.Errorf("%d frames", len(got[0]))
	}
	adjust(t, s, -100000)
	refused(t, s, filled(8, api.MaxFrames, 1), api.ErrLimit)
	pushed(t, s, filled(8, 3600, 1))
	s = begun(t, 5, 5, 1, 8)
	adjust(t, s, -1) // the step is a little below 1: one frame more
	pushed(t, s, filled(8, 1, 1))
	refused(t, s, filled(8, api.MaxFrames, 1), api.ErrLimit)
	if got := pushed(t, s, filled(8, api.MaxFrames-1, 1)); len(got[0]) != api.MaxFrames {
		t.Errorf("%d frames", len(got[0]))
	}
	s = begun(t, 1200, api.MaxRate, 2, 1)
	adjust(t, s, -100000)
	refused(t, s, filled(1, 26, 1), api.ErrLimit)
	pushed(t, s, filled(1, 25, 1)) // 23 / (0.9 / 160), rounded up
	if s.Made() != 4089 {
		t.Errorf("Made = %d", s.Made())
	}
	if got := drained(t, s, 1); len(got[0]) != 356 {
		t.Errorf("%d frames", len(got[0]))
	}
}

// 5.3: Whole's errors, and their order.
func TestWholeErrors(t *testing.T) {
	check := func(in, out, quality int, b api.Block, want api.Errno) {
		t.Helper()
		if made, e := resample.Whole(in, out, quality, b); e != want || len(made) != 0 {
			t.Errorf("Whole(%d, %d, %d, %d channels) = %d channels, %d, not %d", in, out, quality, len(b), len(made), e, want)
		}
	}
	for _, b := range invalidBlocks() {
		check(1, 1, 1, b, api.ErrInvalid)
		check(0, 1, 1, b, api.ErrInvalid)
		check(1, 1, 3, b, api.ErrInvalid)
		check(1, 161, 1, b, api.ErrInvalid)
	}
	large := api.Block(filled(2, api.MaxFrames, 1))
	for _, n := range noRates() {
		check(n, 1, 1, large, api.ErrRange)
		check(1, n, 2, large, api.ErrRange)
	}
	for _, n := range noQualities() {
		check(1, 1, n, large, api.ErrRange)
		check(1, 161, n, large, api.ErrRange)
	}
	check(1, 161, 1, large, api.ErrKind)
	check(161, 1, 1, large, api.ErrKind)
	check(1, 2, 1, large, api.ErrLimit)
	check(api.MaxFrames-1, api.MaxFrames, 1, large, api.ErrLimit) // one more than MaxFrames, the last two of which are drained
	check(1, 2, 2, filled(1, 2049, 1), api.ErrLimit)
	for quality := 1; quality <= 2; quality++ {
		if got := whole(t, 1, 2, quality, filled(1, 2048, 0)); len(got[0]) != api.MaxFrames {
			t.Errorf("%d frames", len(got[0]))
		}
		whole(t, 1, 1, quality, large)
		whole(t, api.MaxFrames, api.MaxFrames-1, quality, large)
	}
}
